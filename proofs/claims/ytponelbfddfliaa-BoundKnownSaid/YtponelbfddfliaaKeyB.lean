/- Layer 4, the program: a row, written. -/
import Derived.Test.YtponelbfddfliaaKeyA
namespace Go.Proofs.Ytponelbfddfliaa
open Go.ChangeShapes Go.WideShapes Go.ChangeAt Go.RowKit

theorem put_len (l : List PT) (h : ∀ p ∈ l, p.ok) : (Ky.put (tos l)).length ≤ 2000002 * l.length := by
  induction l with
  | nil => simp [tos, Ky.put]
  | cons p l ih =>
    have h1 := enc_len p (h p (by simp))
    have h2 := ih (fun q hq => h q (by simp [hq]))
    show (Ky.enc p.to ++ Ky.put (tos l)).length ≤ _
    rw [List.length_append, List.length_cons]
    omega
theorem Bd.alloc {w : World} {B b : Nat} {l : List Nat} (h : Bd w B b l) (o : Obj) : Bd (w.alloc o) B b l := by
  have one : ∀ p, Lib.BuilderAt 90 5 B b p (u8s l) w → Lib.BuilderAt 90 5 B b p (u8s l) (w.alloc o) := by
    rintro p ⟨hB, v, hb, hown, hne⟩
    exact ⟨hB, v, (Lib.alloc_old w o b (Array.getElem?_eq_some_iff.1 hb).1).trans hb, hown.alloc _, hne⟩
  exact ⟨h.1, h.2.elim (fun x => .inl (one _ x)) (fun x => .inr (one _ x))⟩
set_option maxRecDepth 100000 in
set_option maxHeartbeats 1000000 in
theorem put_any (n c B : Nat) (A : Option Addr) (l : List PT) (w : World) (h : Parts w B A n l) (hB : B ≤ w.heap.size) (hn : n ≤ 1000) :
    Calls Try.prog 34 #[.slice A n c] w (TextP w (Ky.put (tos l))) := by
  have HP := Lib.hid h
  clear h
  have hnew := Bd.new w
  have hbe : Below w.heap.size w (w.alloc (.cells #[.pointer none, .slice none 0 0] 90)) := (Below.refl _ _).alloc (Nat.le_refl _) _
  obtain ⟨w0, hw0⟩ : ∃ w0, w.alloc (.cells #[.pointer none, .slice none 0 0] 90) = w0 := ⟨_, rfl⟩
  rw [hw0] at hnew hbe
  have H0 := Lib.hid (And.intro hnew hbe)
  clear hnew hbe
  go_enter Try.func34, Try.ntmps34
  go_wp2_with fail
  clear hw0
  go_loopw [8] (fun i wr => ∃ j : Nat, j ≤ n ∧ i = .int .i64 (j : Int) ∧ Bd wr w.heap.size w.heap.size (Ky.put (tos (l.take j))) ∧ Below w.heap.size w wr) (fun i _ => n - (intOf i).toNat)
  case atStart => exact ⟨0, by omega, rfl, H0.out.1, H0.out.2⟩
  case round =>
    obtain ⟨j, hj, rfl, hbd, hbel⟩ := hrel
    have HB := Lib.hid (And.intro hbd hbel)
    clear hbd
    have hpl : (Ky.put (tos (l.take j))).length ≤ 2000002 * 1000 := by
      have h1 := put_len (l.take j) (fun p hp => HP.out.2.1 p (List.mem_of_mem_take hp))
      have h2 : (l.take j).length ≤ n := by rw [List.length_take, HP.out.1]; omega
      have h3 : 2000002 * (l.take j).length ≤ 2000002 * 1000 := Nat.mul_le_mul_left _ (by omega)
      omega
    by_cases hlt : j < n
    · obtain ⟨b, off, rfl, hbB, hc⟩ := (HP.out.below hbel hB).2.2 (by omega)
      obtain ⟨h1, h2, h3⟩ := hc j hlt
      have hok := HP.out.ok_at hlt
      have hst := put_step l j (by rw [HP.out.1]; exact hlt)
      generalize l.getD j default = p at h1 h2 h3 hok hst
      have HST := Lib.hid hst
      clear hc hst hbel
      have hbd2 := HB.out.1.alloc (.cells #[.int .u8 (p.k : Int), .int .i64 p.n, .string p.s] 67)
      have hbl2 := HB.out.2.alloc (Nat.le_trans (Nat.le_refl _) HB.out.2.size) (.cells #[.int .u8 (p.k : Int), .int .i64 p.n, .string p.s] 67)
      have HX := Lib.hid (And.intro hbd2 hbl2)
      have hws : w.heap.size ≤ wr.heap.size + 1 := by have := HB.out.2.size; omega
      clear hbd2 hbl2
      by_cases hk : p.k = 1
      · have hkt : ((p.k : Int) == 1) = true := by rw [hk]; rfl
        have hke : (p.k : Int) = 1 := by omega
        rw [hke] at HX
        go_wp2_with fail
        refine (putNumber_any w.heap.size w.heap.size _ p.n _ HX.out.1 hok.2.1 (by omega) (by simp; omega)).mono ?_
        rintro e w1 ⟨rfl, h1', b1, k1⟩
        have H1 := Lib.hid (And.intro h1' (HX.out.2.trans b1))
        clear h1' b1 k1
        go_wp2_with fail
        refine ⟨⟨j + 1, by omega, by go_num, ?_, H1.out.2⟩, by simp [intOf]; omega⟩
        have := H1.out.1
        rw [HST.out]
        unfold Ky.enc
        rw [if_pos (show p.to.kind = 1 from hk)]
        exact this
      · have hkt : ((p.k : Int) == 1) = false := by rw [beq_eq_false_iff_ne]; omega
        have hke : ¬ (p.k : Int) = 1 := by omega
        go_wp2_with fail
        refine (putText_any w.heap.size w.heap.size _ p.s _ HX.out.1 hok.2.2 (by omega) (by simp; omega)).mono ?_
        rintro e w1 ⟨rfl, h1', b1, k1⟩
        have H1 := Lib.hid (And.intro h1' (HX.out.2.trans b1))
        clear h1' b1 k1
        go_wp2_with fail
        refine ⟨⟨j + 1, by omega, by go_num, ?_, H1.out.2⟩, by simp [intOf]; omega⟩
        have := H1.out.1
        rw [HST.out]
        unfold Ky.enc
        rw [if_neg (show ¬ p.to.kind = 1 from hk)]
        exact this
    · obtain rfl : n = j := by omega
      clear hbel
      go_wp2_with fail
      refine (bldText_any w.heap.size w.heap.size _ wr HB.out.1 HB.out.2.size).mono ?_
      rintro e w1 ⟨T, rfl, hT, hTs, b1⟩
      have HT := Lib.hid (And.intro hT (And.intro hTs (HB.out.2.trans b1)))
      clear hT hTs b1
      go_wp2_with fail
      go_ret
      have e : l.take n = l := List.take_of_length_le (by rw [HP.out.1]; omega)
      rw [e] at HT
      exact ⟨T, rfl, HT.out.1, HT.out.2.1, HT.out.2.2⟩
end Go.Proofs.Ytponelbfddfliaa
