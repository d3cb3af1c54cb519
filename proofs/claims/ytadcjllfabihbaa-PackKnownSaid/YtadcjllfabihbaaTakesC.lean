/- PackTakes' own helpers: does a reader stand where the document's does; what a kind takes, by both. -/
import Derived.Test.YtadcjllfabihbaaTakesB
namespace Go.Proofs.Ytadcjllfabihbaa
open Go.ChangeShapes Go.WideShapes Go.ChangeAt Go.RowKit

theorem left_goes (b : List Nat) (f : Bool) (a k : Nat) : Pk.left f (b.drop a) k = b.drop (goes f (b.drop a) a k) := by
  rcases Bool.eq_false_or_eq_true (Pk.fails f (b.drop a) k) with h | h
  · rw [Pk.left_yes h, goes_yes h]
  · rw [Pk.left_no h, goes_no h, List.drop_drop]
theorem goes_le (b : List Nat) (f : Bool) (a k n : Nat) (hb : b.length = n) (ha : a ≤ n) : goes f (b.drop a) a k ≤ n := by
  rcases Bool.eq_false_or_eq_true (Pk.fails f (b.drop a) k) with h | h
  · rw [goes_yes h]; exact ha
  · rw [goes_no h]
    have := (Pk.fails_iff.1 h).2
    rw [List.length_drop] at this
    omega
theorem tleft_goes (b : List Nat) (f : Bool) (a : Nat) : Pk.tleft f (b.drop a) = b.drop (tgoes f (b.drop a) a) := by
  rcases Bool.eq_false_or_eq_true (Pk.tfails f (b.drop a)) with h | h
  · rw [Pk.tleft_yes h, tgoes_yes h]
  · rw [Pk.tleft_no h, tgoes_no h, List.drop_drop]
theorem tgoes_le (b : List Nat) (f : Bool) (a n : Nat) (hb : b.length = n) (ha : a ≤ n) : tgoes f (b.drop a) a ≤ n := by
  rcases Bool.eq_false_or_eq_true (Pk.tfails f (b.drop a)) with h | h
  · rw [tgoes_yes h]; exact ha
  · rw [tgoes_no h]
    have h1 := (Pk.tfails_iff.1 h).2
    have h2 := (Pk.fails_iff.1 (Pk.tfails_iff.1 h).1).2
    rw [List.length_drop] at h1 h2
    omega
theorem cells3' {w : World} {g : Nat} {t : TypeId} {x y z : Value} (h : Blk w g t #[x, y, z]) : w.cell? ⟨g, 0, none⟩ = some x ∧ w.cell? ⟨g, 1, none⟩ = some y ∧ w.cell? ⟨g, 2, none⟩ = some z := ⟨h.cell 0, h.cell 1, h.cell 2⟩
theorem rd_alloc {w : World} {lo g : Nat} {l : List Nat} {f : Bool} (h : Rd w lo g l f) (o : Obj) : Rd (w.alloc o) lo g l f := h.below ((Below.refl _ _).alloc (Nat.le_refl _) _) h.here

set_option maxRecDepth 100000 in
set_option maxHeartbeats 2000000 in
theorem is_any (lo g n c a : Nat) (A : Option Addr) (b : List Nat) (f : Bool) (w : World) (hr : Rd w lo g (b.drop a) f) (hbl : b.length = n) (hn : n ≤ 1000000) (ha : a ≤ n) :
    Calls Try.prog 22 #[.pointer (some ⟨g, 0, none⟩), rv A n c a f] w fun e w' => e = .returned (.bool true) ∧ Below w.heap.size w w' := by
  have HDN := Lib.hid (show (b.drop a).length = n - a from by rw [List.length_drop, hbl])
  have HDI := Lib.hid (show (((b.drop a).length : Nat) : Int) = (n : Int) - a from by rw [List.length_drop, hbl]; omega)
  have hwr : IntKind.i64.wrap ((n : Int) - a) = (n : Int) - a := by rw [IntKind.wrap_i64]; omega
  have hk0 := Blk.new w 47 #[.slice A n c, .int .i64 (a : Int), .bool f]
  have d1 : Below w.heap.size w (w.alloc (.cells #[.slice A n c, .int .i64 (a : Int), .bool f] 47)) := (Below.refl _ _).alloc (Nat.le_refl _) _
  have r1 := rd_alloc hr (.cells #[.slice A n c, .int .i64 (a : Int), .bool f] 47)
  have hz := hr.here
  have hz1 : (w.alloc (.cells #[.slice A n c, .int .i64 (a : Int), .bool f] 47)).heap.size = w.heap.size + 1 := by simp
  have HZ := Lib.hid hz1
  obtain ⟨dd, hdd⟩ : ∃ dd, doneOf f (n - a) = dd := ⟨_, rfl⟩
  have HDD := Lib.hid hdd
  have HK := Lib.hid hk0
  clear hbl hr hz1 hdd hk0
  unfold rv
  rcases Bool.eq_false_or_eq_true f with rfl | rfl
  · have he : errOf true = 20 := rfl
    have HE := Lib.hid he
    clear he
    go_enter Try.func22, Try.ntmps22
    go_wp2_with fail
    generalize w.alloc (.cells #[.slice A n c, .int .i64 (a : Int), .bool true] 47) = w1 at *
    obtain ⟨x0, x1, x2, -⟩ := cells3 HK.out
    have HKD := Lib.hid (show Blk w1.drew w.heap.size 47 #[.slice A n c, .int .i64 (a : Int), .bool true] from HK.out)
    have r1d := Lib.hid (r1.below (Below.refl _ w1).drew r1.here)
    go_region_held3 (fun w' => w'.cell? ⟨w.heap.size, 0, none⟩ = some (.slice A n c) ∧ w'.cell? ⟨w.heap.size, 1, none⟩ = some (.int .i64 (a : Int)) ∧ w'.cell? ⟨w.heap.size, 2, none⟩ = some (.bool true)) (first | exact ⟨x0, x1, x2⟩ | exact X9) (first
      | (go_at_call 32; (with_reducible refine (left_any _ _ _ _ _ r1d.out).mono ?_); rintro e w' ⟨rfl, rfl⟩; rw [HDI.out])
      | (go_at_call 30; (with_reducible refine (err_any _ _ _ _ _ r1d.out).mono ?_); rintro e w' ⟨rfl, rfl⟩; rw [HE.out])
      | (go_at_call 31; (with_reducible refine (done_any _ _ _ _ _ r1d.out).mono ?_); rintro e w' ⟨rfl, rfl⟩; rw [HDN.out, HDD.out])
      | (go_at_call 31; have _ := X9; (with_reducible refine (done_any _ _ _ _ _ r9.out).mono ?_); rintro e w' ⟨rfl, rfl⟩; rw [HDN.out, HDD.out])
      | (go_at_call 39; (with_reducible refine (refDone_any n c a A true _ ha).mono ?_); rintro e w9 ⟨rfl, b9⟩; have k9 := HKD.out.below b9 HKD.out.lt; have X9 := cells3' k9; have d9 := d1.drew.trans (b9.mono d1.drew.size); rw [HDD.out]; have r9 := Lib.hid (r1d.out.below b9 r1d.out.here); clear b9 k9))
    all_goals
      go_wp2_with fail
      go_ret
      exact ⟨rfl, d9⟩
  · have he : errOf false = 0 := rfl
    have HE := Lib.hid he
    clear he
    go_enter Try.func22, Try.ntmps22
    go_wp2_with fail
    generalize w.alloc (.cells #[.slice A n c, .int .i64 (a : Int), .bool false] 47) = w1 at *
    obtain ⟨x0, x1, x2, -⟩ := cells3 HK.out
    have HKD := Lib.hid (show Blk w1.drew w.heap.size 47 #[.slice A n c, .int .i64 (a : Int), .bool false] from HK.out)
    have r1d := Lib.hid (r1.below (Below.refl _ w1).drew r1.here)
    go_region_held3 (fun w' => w'.cell? ⟨w.heap.size, 0, none⟩ = some (.slice A n c) ∧ w'.cell? ⟨w.heap.size, 1, none⟩ = some (.int .i64 (a : Int)) ∧ w'.cell? ⟨w.heap.size, 2, none⟩ = some (.bool false)) (first | exact ⟨x0, x1, x2⟩ | exact X9) (first
      | (go_at_call 32; (with_reducible refine (left_any _ _ _ _ _ r1d.out).mono ?_); rintro e w' ⟨rfl, rfl⟩; rw [HDI.out])
      | (go_at_call 30; (with_reducible refine (err_any _ _ _ _ _ r1d.out).mono ?_); rintro e w' ⟨rfl, rfl⟩; rw [HE.out])
      | (go_at_call 31; (with_reducible refine (done_any _ _ _ _ _ r1d.out).mono ?_); rintro e w' ⟨rfl, rfl⟩; rw [HDN.out, HDD.out])
      | (go_at_call 31; have _ := X9; (with_reducible refine (done_any _ _ _ _ _ r9.out).mono ?_); rintro e w' ⟨rfl, rfl⟩; rw [HDN.out, HDD.out])
      | (go_at_call 39; (with_reducible refine (refDone_any n c a A false _ ha).mono ?_); rintro e w9 ⟨rfl, b9⟩; have k9 := HKD.out.below b9 HKD.out.lt; have X9 := cells3' k9; have d9 := d1.drew.trans (b9.mono d1.drew.size); rw [HDD.out]; have r9 := Lib.hid (r1d.out.below b9 r1d.out.here); clear b9 k9))
    all_goals
      go_wp2_with fail
      go_ret
      exact ⟨rfl, d9⟩

end Go.Proofs.Ytadcjllfabihbaa
