/- The calls of layer 1 over rows of bytes: Update, Sum, Text, Of, Is, and a table's Take. -/
import Derived.Test.YtflfmcicidgkmaaWalkE
namespace Go.Proofs.Ytflfmcicidgkmaa
open Go.ChangeShapes Go.WideShapes Go.ChangeAt Go.RowKit

/-- The cells of a table that is blank. -/
def blankCells : Array Value := ⟨.int .u32 0 :: .int .i32 0 :: .int .u32 0 :: List.replicate 256 (.int .u32 0)⟩
/-- What the zero of a table is, told by what is asked of it alone. -/
theorem blank_ex : ∃ cs : Array Value, (∀ w : World, (zeroValue 44).run Try.prog w = .ok (.agg cs) w) ∧ ∀ w : World, Blank (w.alloc (.cells cs 44)) w.heap.size :=
  ⟨blankCells, fun _ => by kernel_rfl, fun w => ⟨blankCells, Blk.new w _ _, by kernel_rfl, by kernel_rfl, by kernel_rfl⟩⟩
/-- What a call leaves that makes a table, and turns that alone. -/
theorem below_new {w w' : World} {cs : Array Value} {t : TypeId} (h : (w.alloc (.cells cs t)).grownBy w' (some w.heap.size)) : Below w.heap.size w w' := by
  have h1 : Below w.heap.size w (w.alloc (.cells cs t)) := (Below.refl _ _).alloc (Nat.le_refl _) _
  refine h1.trans ⟨h.os, h.tape, h.output, h.size, fun k hk => h.block k ?_ (fun e => by injection e with e; omega)⟩
  simp
  omega

set_option maxRecDepth 100000 in
theorem update_any (s n c B : Nat) (A : Option Addr) (l : List Nat) (w : World) (hs : s < 4294967296) (hb : Bytes w B A n l) (hB : B ≤ w.heap.size) (hn : n ≤ 9223372036854775807) :
    Calls Try.prog 12 #[.int .u32 (s : Int), .slice A n c] w fun e w' => e = .returned (.int .u32 ((Crc.upd s l : Nat) : Int)) ∧ Below w.heap.size w w' := by
  obtain ⟨cs, hz, hnew⟩ := blank_ex
  go_enter Try.func12, Try.ntmps12
  go_wp2_with fail
  refine (tableUpdate_any w.heap.size s n c B A l _ (.inl (hnew w)) hs (hb.alloc hB _) hB (by simp; omega) hn).mono ?_
  rintro e w1 ⟨rfl, hm, hg⟩
  have hbl := below_new hg
  clear hg hm hz hnew
  go_wp2_with fail
  go_ret
  exact ⟨rfl, hbl⟩

/-- A slice at A, of n rows of bytes, below block B, reads as ls. -/
def RowsOf (w : World) (B : Nat) (A : Option Addr) (n : Nat) (ls : List (List Nat)) : Prop :=
  ls.length = n ∧ (0 < n → ∃ b off, A = some ⟨b, off, none⟩ ∧ b < B ∧ ∀ i, i < n → ∃ a m c, w.cell? ⟨b, off + i, none⟩ = some (.slice a m c) ∧ m ≤ 9223372036854775807 ∧ Bytes w B a m (ls.getD i []))
section
variable {w w' : World} {B n : Nat} {A : Option Addr} {ls : List (List Nat)}
theorem RowsOf.keep (h : RowsOf w B A n ls) (hk : ∀ b o, b < B → w'.cell? ⟨b, o, none⟩ = w.cell? ⟨b, o, none⟩) : RowsOf w' B A n ls :=
  ⟨h.1, fun hn => by
    obtain ⟨b, off, e, hb, hc⟩ := h.2 hn
    refine ⟨b, off, e, hb, fun i hi => ?_⟩
    obtain ⟨a, m, c, h1, h2, h3⟩ := hc i hi
    exact ⟨a, m, c, (hk b _ hb).trans h1, h2, h3.keep hk⟩⟩
theorem RowsOf.below {B' : Nat} (h : RowsOf w B A n ls) (hb : Below B' w w') (hB : B ≤ B') : RowsOf w' B A n ls := h.keep fun b o hp => hb.cell (p := ⟨b, o, none⟩) (by show b < B'; omega)
theorem RowsOf.alloc (h : RowsOf w B A n ls) (hB : B ≤ w.heap.size) (o : Obj) : RowsOf (w.alloc o) B A n ls := h.keep fun b f hp => World.cell?_alloc_lt w o ⟨b, f, none⟩ (by show b < w.heap.size; omega)
theorem RowsOf.grown (h : RowsOf w B A n ls) {g : Nat} (hg : w.grownBy w' (some g)) (hB : B ≤ w.heap.size) (hr : B ≤ g) : RowsOf w' B A n ls :=
  h.keep fun b o hp => World.cell?_of_block (a := ⟨b, o, none⟩) (hg.block b (by omega) (fun e => by injection e with e; omega))
theorem RowsOf.all (h : RowsOf w B A n ls) : ∀ l ∈ ls, ∀ b ∈ l, b < 256 := by
  intro l hl
  obtain ⟨i, hi, rfl⟩ := List.getElem_of_mem hl
  obtain ⟨b, off, e, hb, hc⟩ := h.2 (by have := h.1; omega)
  obtain ⟨a, m, c, h1, h2, h3⟩ := hc i (by have := h.1; omega)
  have e : ls.getD i [] = ls[i] := by rw [List.getD_eq_getElem?_getD, List.getElem?_eq_getElem hi]; rfl
  rw [e] at h3
  exact h3.2.1
end
theorem take_snoc' (l : List (List Nat)) (k : Nat) (h : k < l.length) : l.take (k + 1) = l.take k ++ [l.getD k []] := by
  rw [List.take_succ_eq_append_getElem h, List.getD_eq_getElem?_getD, List.getElem?_eq_getElem h]; rfl
theorem sum_take0 (ls : List (List Nat)) : Crc.sum (ls.take 0) = 0 := by rw [List.take_zero]; simp only [Crc.sum, Crc.runs, List.foldl_nil, Nat.sub_self]
theorem sum_step {ls : List (List Nat)} {n k : Nat} (h : ls.length = n) (hk : k < n) (ha : ∀ l ∈ ls, ∀ b ∈ l, b < 256) : Crc.upd (Crc.sum (ls.take k)) (ls.getD k []) = Crc.sum (ls.take (k + 1)) := by
  rw [take_snoc' ls k (by omega), Crc.upd_sum]
  exact fun l hl => ha l (List.mem_of_mem_take hl)

set_option maxRecDepth 100000 in
theorem sum_any (n c B : Nat) (A : Option Addr) (ls : List (List Nat)) (w : World) (hb : RowsOf w B A n ls) (hB : B ≤ w.heap.size) (hn : n ≤ 9223372036854775807) :
    Calls Try.prog 10 #[.slice A n c] w fun e w' => e = .returned (.int .u32 ((Crc.sum ls : Nat) : Int)) ∧ Below w.heap.size w w' := by
  obtain ⟨cs, hz, hnew⟩ := blank_ex
  have hall := Lib.hid hb.all
  have hlen := Lib.hid hb.1
  have hb0 := hb.alloc hB (.cells cs 44)
  have hT := hnew w
  have hsz : (w.alloc (.cells cs 44)).heap.size = w.heap.size + 1 := by simp
  have HSZ := Lib.hid hsz
  clear hb hsz hnew
  go_enter Try.func10, Try.ntmps10
  go_wp2_with fail
  generalize hW : w.alloc (.cells cs 44) = w0 at *
  have HW := Lib.hid hW
  clear hW hz
  go_loopw [4, 9] (fun t i wr => ∃ k : Nat, k ≤ n ∧ i = .int .i64 k ∧ t = .int .u32 ((Crc.sum (ls.take k) : Nat) : Int) ∧ (Blank wr w.heap.size ∨ Made wr w.heap.size) ∧ w0.grownBy wr (some w.heap.size)) (fun _ i _ => n - (intOf i).toNat)
  case atStart => exact ⟨0, by omega, rfl, by rw [sum_take0]; rfl, .inl hT, World.grownBy.refl _ _⟩
  case round =>
    obtain ⟨k, hk, rfl, rfl, hT', hg⟩ := hrel
    by_cases hlt : k < n
    · have hb1 := hb0.grown hg (by rw [HSZ.out]; omega) hB
      obtain ⟨b, off, rfl, hbB, hc⟩ := hb1.2 (by omega)
      obtain ⟨a, m, c', hck, hm, hbm⟩ := hc k hlt
      have hsl := Crc.sum_lt (ls.take k)
      have HS := Lib.hid (sum_step hlen.out hlt hall.out)
      have hbs : B ≤ wr.heap.size := by have := hg.size; rw [HSZ.out] at this; omega
      generalize Crc.sum (ls.take k) = r at *
      clear hc hb1
      go_wp2_with fail
      refine (tableUpdate_any w.heap.size r m c' B a (ls.getD k []) _ hT' hsl hbm hB hbs hm).mono ?_
      rintro e w1 ⟨rfl, hmd, hg1⟩
      rw [HS.out]
      go_wp2_with fail
      go_roundw
      case rel => exact ⟨k + 1, by omega, by go_num, rfl, .inr hmd, hg.trans hg1⟩
      case measure => simp [intOf]; omega
    · have hta : ls.take k = ls := List.take_of_length_le (by rw [hlen.out]; omega)
      have HT := Lib.hid hta
      have hbl : Below w.heap.size w wr := by rw [← HW.out] at hg; exact below_new hg
      clear hta hT' hg
      go_wp2_with fail
      go_ret
      exact ⟨ret_int (by rw [HT.out]), hbl⟩

theorem is_any (s n c B : Nat) (A : Option Addr) (l : List Nat) (w : World) (hb : Bytes w B A n l) (hB : B ≤ w.heap.size) (hn : n ≤ 9223372036854775807) :
    Calls Try.prog 21 #[.slice A n c, .int .u32 (s : Int)] w fun e w' => e = .returned (.bool (((Crc.upd 0 l : Nat) : Int) == (s : Int))) ∧ Below w.heap.size w w' := by
  go_enter Try.func21, Try.ntmps21
  go_wp2_with fail
  refine (update_any 0 n c B A l _ (by omega) hb hB hn).mono ?_
  rintro e w1 ⟨rfl, hbl⟩
  go_wp2_with fail
  go_ret
  exact ⟨rfl, hbl⟩
end Go.Proofs.Ytflfmcicidgkmaa
