/- Layer 7's laws: what was found, held against each other; few rows. -/
import Derived.Test.YtnokbnobnhkmgaaFrP
import Derived.Test.YtnokbnobnhkmgaaKit
import Derived.Test.YtnokbnobnhkmgaaHeld
namespace Go.Proofs.Ytnokbnobnhkmgaa
open Go.ChangeShapes Go.WideShapes Go.ChangeAt Go.RowKit

def LawP (w : World) (e : Ending) (w' : World) : Prop := e = .returned (.bool true) ∧ Below w.heap.size w w'
/-- A call that tells a truth, and makes only memory. -/
def FitP (w : World) (r : Bool) (e : Ending) (w' : World) : Prop := e = .returned (.bool r) ∧ Below w.heap.size w w'
theorem same_fit (n c c' : Nat) (A A' : Option Addr) (l : List Nat) (w : World) (hb : Bytes w w.heap.size A n l) (hb' : Bytes w w.heap.size A' n l) (hn : n ≤ 9223372036854775807) : Calls Try.prog 13 #[.slice A n c, .slice A' n c'] w (FitP w true) :=
  (same_yes n c n c' w.heap.size A A' l w hb hb' hn).mono fun e w' h => ⟨h.1, by obtain ⟨-, k, rfl⟩ := h; exact below_drewN (Below.refl _ _) k⟩
theorem Founds.at_ {w : World} {B n c : Nat} {b : Nat} {t : TypeId} {A : Option Addr} {V : List Value} {L : List (List Nat × Int)} (h : Founds w B V L) (ho : w.ownsRow b t 2 (.slice A n c) n V) {i : Nat} (hi : i < n) :
    ∃ g a m c', A = some ⟨g, 0, none⟩ ∧ w.cell? ⟨g, i * 2, none⟩ = some (.slice a m c') ∧ w.cell? ⟨g, i * 2 + 1, none⟩ = some (.int .i64 (L.getD i ([], 0)).2) ∧ m ≤ 1000000 ∧ w.ownsRow B 5 1 (.slice a m c') m (u8s (L.getD i ([], 0)).1) := by
  obtain ⟨g, cap, he, hc, hlt⟩ := ho.form (by omega)
  injection he with he
  subst he
  obtain ⟨a, m, c', h1, h2, h3, h4⟩ := h.2 i (by have := ho.1; have := h.1; omega)
  have e1 := ho.cells (g := g) rfl _ _ h1
  have e2 := ho.cells (g := g) rfl _ _ h2
  rw [add_at, Nat.zero_add] at e1 e2
  exact ⟨g, a, m, c', rfl, e1, e2, h3, h4⟩
/-- Are all bytes of what was found bytes? -/
def bytesOk (L : List (List Nat × Int)) : Prop := ∀ x ∈ L, ∀ y ∈ x.1, y < 256
theorem bytesOk_at {L : List (List Nat × Int)} (h : bytesOk L) (i : Nat) : ∀ y ∈ (L.getD i ([], 0)).1, y < 256 := by
  rw [List.getD_eq_getElem?_getD]
  rcases hx : L[i]? with _ | x
  · simp
  · exact h x (List.mem_of_getElem? hx)
theorem from_bytes (b : List Nat) (hb : ∀ x ∈ b, x < 256) : ∀ f a, bytesOk (Fr.all f b a).1 := by
  intro f
  induction f with
  | zero => intro a x hx; simp [Fr.all] at hx
  | succ f ih =>
    intro a
    unfold Fr.all
    split
    · intro x hx; simp at hx
    · split
      · intro x hx; simp at hx; subst hx; simp
      · intro x hx
        rcases List.mem_cons.1 hx with rfl | hx
        · exact fun y hy => hb y (Fr.tkA_sub b a y hy)
        · exact ih _ x hx
theorem from_ok {b : List Nat} (hb : ∀ x ∈ b, x < 256) (a : Nat) : bytesOk (Fr.from_ b a).1 := from_bytes b hb _ a
set_option maxRecDepth 100000 in
set_option maxHeartbeats 1000000 in
theorem same_found (n c c' b b' B B' : Nat) (A A' : Option Addr) (V V' : List Value) (L : List (List Nat × Int)) (w : World) (ho : w.ownsRow b 44 2 (.slice A n c) n V) (hf : Founds w B V L) (ho' : w.ownsRow b' 53 2 (.slice A' n c') n V') (hf' : Founds w B' V' L) (hL : bytesOk L) :
    Calls Try.prog 22 #[.slice A n c, .slice A' n c'] w (LawP w) := by
  have hn := own_max ho
  have H := Lib.hid (And.intro (And.intro ho hf) (And.intro (And.intro ho' hf') hL))
  clear ho hf ho' hf' hL
  go_enter Try.func22, Try.ntmps22
  go_wp2_with fail
  go_loopw [5] (fun i wr => ∃ j : Nat, j ≤ n ∧ i = .int .i64 (j : Int) ∧ Below w.heap.size w wr) (fun i _ => n - (intOf i).toNat)
  case atStart => exact ⟨0, by omega, rfl, Below.refl _ _⟩
  case round =>
    obtain ⟨j, hj, rfl, hx⟩ := hrel
    have HX := Lib.hid hx
    clear hx
    by_cases hlt : j < n
    · have i1 : (0 : Int) ≤ j := by omega
      have i2 : (j : Int) < n := by omega
      obtain ⟨g, a, m, c1, rfl, e0, e1, e2, e3⟩ := H.out.1.2.at_ H.out.1.1 hlt
      obtain ⟨g', a', m', c1', rfl, f0, f1, f2, f3⟩ := H.out.2.1.2.at_ H.out.2.1.1 hlt
      obtain ⟨y, hy⟩ : ∃ y, L.getD j ([], 0) = y := ⟨_, rfl⟩
      have hyb := bytesOk_at H.out.2.2 j
      rw [hy] at e1 e3 f1 f3 hyb
      obtain ⟨l, er⟩ := y
      dsimp only at e1 e3 f1 f3 hyb
      obtain rfl : m = m' := by have h1 := e3.1; have h2 := f3.1; omega
      have hg : g < w.heap.size := (H.out.1.1.lt g rfl).2
      have hg' : g' < w.heap.size := (H.out.2.1.1.lt g' rfl).2
      have P : Hid (∀ W, Below wr.heap.size wr W → (W.cell? ⟨g, j * 2, none⟩ = some (.slice a m c1) ∧ W.cell? ⟨g, j * 2 + 1, none⟩ = some (.int .i64 er)) ∧ W.cell? ⟨g', j * 2, none⟩ = some (.slice a' m c1') ∧ W.cell? ⟨g', j * 2 + 1, none⟩ = some (.int .i64 er)) := Lib.hid fun W hW' => by
        have hW := HX.out.trans (hW'.mono HX.out.size)
        exact ⟨⟨(hW.cell (p := ⟨g, _, none⟩) hg).trans e0, (hW.cell (p := ⟨g, _, none⟩) hg).trans e1⟩, (hW.cell (p := ⟨g', _, none⟩) hg').trans f0, (hW.cell (p := ⟨g', _, none⟩) hg').trans f1⟩
      have HS : Hid (∀ W, Below wr.heap.size wr W → Calls Try.prog 13 #[.slice a m c1, .slice a' m c1'] W (FitP W true)) := Lib.hid fun W hW' => by
        have hW := HX.out.trans (hW'.mono HX.out.size)
        exact (same_yes m c1 m c1' W.heap.size a a' l W (((Bytes.of_own e3 hyb).below hW (Nat.le_refl _)).more hW.size) (((Bytes.of_own f3 hyb).below hW (Nat.le_refl _)).more hW.size) (by omega)).mono fun e w' h => ⟨h.1, by obtain ⟨-, k, rfl⟩ := h; exact below_drewN (Below.refl _ _) k⟩
      have E0 : Hid (Below wr.heap.size wr wr.drew) := Lib.hid (Below.refl _ _).drew
      clear e0 e1 e2 e3 f0 f1 f2 f3 hy hyb hg hg'
      go_wp2_with fail
      go_region_held3 (fun W => (W.cell? ⟨g, j * 2, none⟩ = some (.slice a m c1) ∧ W.cell? ⟨g, j * 2 + 1, none⟩ = some (.int .i64 er)) ∧ W.cell? ⟨g', j * 2, none⟩ = some (.slice a' m c1') ∧ W.cell? ⟨g', j * 2 + 1, none⟩ = some (.int .i64 er)) (first | with_reducible exact P.out _ E0.out | with_reducible exact P.out _ E1.out | fail) (first
        | (go_at_call 13; (with_reducible refine (HS.out _ E0.out).mono ?_); rintro e V1 ⟨rfl, bb⟩; have E1 := Lib.hid (below_next E0.out bb); clear bb))
      go_wp2_with fail
      exact ⟨⟨j + 1, by omega, by go_num, HX.out.trans (E1.out.mono HX.out.size)⟩, by simp [intOf]; omega⟩
    · have i2 : ¬ (j : Int) < n := by omega
      go_wp2_with fail
      go_ret
      exact ⟨rfl, HX.out⟩
/-- At most eight rows, of at most 400 bytes? -/
def fewB (ls : List (List Nat)) : Bool := decide (ls.length ≤ 8) && ls.all (fun l => decide (l.length ≤ 400))
theorem few_yes {ls : List (List Nat)} (h : fewB ls = true) : ls.length ≤ 8 ∧ ∀ l ∈ ls, l.length ≤ 400 := by
  unfold fewB at h
  simp at h
  exact h
theorem few_no {ls : List (List Nat)} {j : Nat} (hj : j < ls.length) (h : 400 < (ls.getD j []).length) : fewB ls = false := by
  rcases Bool.eq_false_or_eq_true (fewB ls) with h1 | h1
  · have := (few_yes h1).2 (ls.getD j []) (by rw [List.getD_eq_getElem?_getD, List.getElem?_eq_getElem hj]; exact List.getElem_mem hj)
    omega
  · exact h1
theorem few_long {ls : List (List Nat)} (h : 8 < ls.length) : fewB ls = false := by
  unfold fewB
  rw [decide_eq_false (by omega), Bool.false_and]
theorem few_all {ls : List (List Nat)} (h : ls.length ≤ 8) (h2 : ∀ i, i < ls.length → (ls.getD i []).length ≤ 400) : fewB ls = true := by
  unfold fewB
  rw [decide_eq_true h, Bool.true_and, List.all_eq_true]
  intro l hl
  obtain ⟨i, hi, rfl⟩ := List.getElem_of_mem hl
  have := h2 i hi
  rw [List.getD_eq_getElem?_getD, List.getElem?_eq_getElem hi] at this
  simpa using this
set_option maxRecDepth 100000 in
set_option maxHeartbeats 1000000 in
theorem few_any (n c B : Nat) (A : Option Addr) (ls : List (List Nat)) (w : World) (h : RowsOf w B A n ls) (hn : n ≤ 9223372036854775807) : Calls Try.prog 9 #[.slice A n c] w fun e w' => e = .returned (.bool (fewB ls)) ∧ w = w' := by
  have HL := Lib.hid h.1
  have H := Lib.hid h
  clear h
  go_enter Try.func9, Try.ntmps9
  go_wp2_with fail
  go_loop [3] (fun i => ∃ j : Nat, j ≤ n ∧ j ≤ 9 ∧ i = .int .i64 (j : Int) ∧ ∀ k, k < j → (ls.getD k []).length ≤ 400) (fun i => n - (intOf i).toNat)
  case atStart => exact ⟨0, by omega, by omega, rfl, fun k hk => by omega⟩
  case round =>
    obtain ⟨j, hj, h9, rfl, hall⟩ := hrel
    have HA := Lib.hid hall
    clear hall
    by_cases hlt : j < n
    · by_cases h8 : j < 9
      · obtain ⟨b, off, rfl, hb, hc⟩ := H.out.2 (by omega)
        obtain ⟨a, m, c1, h1, h2, h3⟩ := hc j hlt
        have hm := h3.1
        have i1 : (0 : Int) ≤ j := by omega
        have i2 : (j : Int) < n := by omega
        have i3 : (j : Int) < 9 := by omega
        have HMM := Lib.hid hm
        clear hc h3 hm
        by_cases h400 : 400 < m
        · have i4 : (400 : Int) < m := by omega
          have hf := few_no (ls := ls) (j := j) (by rw [HL.out]; exact hlt) (by rw [HMM.out]; exact h400)
          have HF := Lib.hid hf
          clear hf
          go_wp2_with fail
          go_ret
          exact ⟨by rw [HF.out]; rfl, rfl⟩
        · have i4 : ¬ (400 : Int) < m := by omega
          go_wp2_with fail
          refine ⟨⟨j + 1, by omega, by omega, by go_num, fun k hk => ?_⟩, by simp [intOf]; omega⟩
          rcases Nat.lt_or_ge k j with h | h
          · exact HA.out k h
          · obtain rfl : k = j := by omega
            rw [HMM.out]; omega
      · have i2 : (j : Int) < n := by omega
        have i3 : ¬ (j : Int) < 9 := by omega
        have i4 : ¬ (n : Int) ≤ 8 := by omega
        have hf := few_long (ls := ls) (by rw [HL.out]; omega)
        have HF := Lib.hid hf
        clear hf
        go_wp2_with fail
        go_ret
        exact ⟨by rw [HF.out]; rfl, rfl⟩
    · obtain rfl : n = j := by omega
      by_cases h8 : n ≤ 8
      · have i4 : (n : Int) ≤ 8 := by omega
        have hf := few_all (ls := ls) (by rw [HL.out]; exact h8) (by rw [HL.out]; exact HA.out)
        have HF := Lib.hid hf
        have i2 : ¬ (n : Int) < n := by omega
        clear hf
        go_wp2_with fail
        go_ret
        exact ⟨by rw [HF.out]; rfl, rfl⟩
      · have i4 : ¬ (n : Int) ≤ 8 := by omega
        have hf := few_long (ls := ls) (by rw [HL.out]; omega)
        have HF := Lib.hid hf
        have i2 : ¬ (n : Int) < n := by omega
        clear hf
        go_wp2_with fail
        go_ret
        exact ⟨by rw [HF.out]; rfl, rfl⟩
end Go.Proofs.Ytnokbnobnhkmgaa
