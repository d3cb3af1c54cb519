/- Stage 4's statements: their helpers. -/
import Derived.Test.YtbafbhnnonfkpaaOpenP
import Derived.Deep.AppendLies
namespace Go.Proofs.Ytbafbhnnonfkpaa
open Go.ChangeShapes Go.WideShapes Go.ChangeAt Go.RowKit

def fewB (n : Nat) (l : List PT) : Bool := decide ((∀ p ∈ l, p.s.size ≤ 100) ∧ n ≤ 8)
set_option maxRecDepth 100000 in
set_option maxHeartbeats 1000000 in
theorem few_any (n c B : Nat) (A : Option Addr) (l : List PT) (w : World) (h : PartsR w B A n l) (hn : n ≤ 9223372036854775807) : Calls Try.prog 8 #[.slice A n c] w fun e w' => e = .returned (.bool (fewB n l)) ∧ w' = w := by
  have HP := Lib.hid h
  clear h
  go_enter Try.func8, Try.ntmps8
  go_wp2_with fail
  go_loopw [3] (fun i wr => ∃ j : Nat, j ≤ n ∧ i = .int .i64 (j : Int) ∧ (∀ p ∈ l.take j, p.s.size ≤ 100) ∧ wr = w) (fun i _ => n - (intOf i).toNat)
  case atStart => exact ⟨0, by omega, rfl, by simp, rfl⟩
  case round =>
    obtain ⟨j, hj, rfl, hall, rfl⟩ := hrel
    have HA := Lib.hid hall
    clear hall
    by_cases hlt : j < n
    · obtain ⟨b, off, rfl, hb, hc⟩ := HP.out.2.2 (by omega)
      have h3 := (hc j hlt).2.2
      have hmem : l.getD j default ∈ l := by
        have hl : j < l.length := by rw [HP.out.1]; exact hlt
        rw [List.getD_eq_getElem?_getD, List.getElem?_eq_getElem hl]
        exact List.getElem_mem hl
      have htk : l.take (j + 1) = l.take j ++ [l.getD j default] := by
        have hl : j < l.length := by rw [HP.out.1]; exact hlt
        rw [List.take_succ_eq_append_getElem hl, List.getD_eq_getElem?_getD, List.getElem?_eq_getElem hl]; rfl
      have HM := Lib.hid (And.intro hmem htk)
      generalize l.getD j default = p at h3 HM
      have i1 : (0 : Int) ≤ j := by omega
      have i2 : (j : Int) < n := by omega
      clear hc hmem htk
      by_cases hs : p.s.size ≤ 100
      · have i3 : ¬ (100 : Int) < p.s.size := by omega
        go_wp2_with fail
        refine ⟨⟨j + 1, by omega, by go_num, ?_, trivial⟩, by simp [intOf]; omega⟩
        intro q hq
        rw [HM.out.2] at hq
        rcases List.mem_append.1 hq with h | h
        · exact HA.out q h
        · simp at h
          subst h
          exact hs
      · have i3 : (100 : Int) < p.s.size := by omega
        have hf : fewB n l = false := by
          unfold fewB
          rw [decide_eq_false_iff_not]
          intro h
          exact hs (h.1 p HM.out.1)
        have HF := Lib.hid hf
        clear hf
        go_wp2_with fail
        go_ret
        exact ⟨congrArg (fun b => Ending.returned (.bool b)) HF.out.symm, rfl⟩
    · obtain rfl : n = j := by omega
      have hf : fewB n l = decide ((n : Int) ≤ 8) := by
        unfold fewB
        have h1 := HA.out
        rw [List.take_of_length_le (by rw [HP.out.1]; omega)] at h1
        rw [decide_eq_decide]
        constructor
        · intro h; omega
        · intro h; exact ⟨h1, by omega⟩
      have HF := Lib.hid hf
      clear hf
      go_wp2_with fail
      go_ret
      exact ⟨congrArg (fun b => Ending.returned (.bool b)) HF.out.symm, rfl⟩
set_option maxRecDepth 100000 in
set_option maxHeartbeats 1000000 in
theorem sign_any (a b : ByteArray) (w : World) : Calls Try.prog 30 #[.string a, .string b] w fun e w' => e = .returned (.int .i64 (Ky.cmp (nums a) (nums b))) ∧ w' = w := by
  have hl := text_cmp a b
  have hr := text_cmp b a
  rw [Ky.cmp_swap (nums a) (nums b)] at hr
  rcases Ky.cmp_three (nums a) (nums b) with h | h | h
  · rw [h] at hl hr ⊢
    replace hl : Op.bytesLess a.toList b.toList = true := by rw [hl]; rfl
    replace hr : Op.bytesLess b.toList a.toList = false := by rw [hr]; rfl
    go_enter Try.func30, Try.ntmps30
    go_wp2_with fail
    go_ret
    exact ⟨rfl, rfl⟩
  · rw [h] at hl hr ⊢
    replace hl : Op.bytesLess a.toList b.toList = false := by rw [hl]; rfl
    replace hr : Op.bytesLess b.toList a.toList = false := by rw [hr]; rfl
    have hq : (a.toList == b.toList) = true := by rw [nums_inj (Ky.cmp_eq h)]; simp
    go_enter Try.func30, Try.ntmps30
    go_wp2_with fail
    go_ret
    exact ⟨rfl, rfl⟩
  · rw [h] at hl hr ⊢
    replace hl : Op.bytesLess a.toList b.toList = false := by rw [hl]; rfl
    replace hr : Op.bytesLess b.toList a.toList = true := by rw [hr]; rfl
    have hq := text_ne (a := a) (b := b) (by intro e; rw [e, Ky.cmp_refl] at h; simp at h)
    go_enter Try.func30, Try.ntmps30
    go_wp2_with fail
    go_ret
    exact ⟨rfl, rfl⟩
theorem grow_below_drew {w w1 w2 : World} {o : Obj} {row : Option Nat} (h : Below w.heap.size w w1) (hg : (w1.alloc o).drew.grownBy w2 row) (hr : ∀ g, row = some g → w.heap.size ≤ g) : Below w.heap.size w w2 :=
  (h.alloc h.size o).drew.trans ⟨hg.os, hg.tape, hg.output, hg.size, fun k hk => hg.block k (by have := h.size; show k < (w1.alloc o).heap.size; simp; omega) (fun e => by have := hr k e.symm; omega)⟩
/-- A call's row of parts, in memory of its own. -/
def RowP (t : TypeId) (w : World) (l : List PT) (e : Ending) (w' : World) : Prop := ∃ (A : Option Addr) (c : Nat), e = .returned (.slice A l.length c) ∧ w'.ownsRow w.heap.size t 3 (.slice A l.length c) l.length (pcells l) ∧ Below w.heap.size w w'
theorem snoc_at (l : List PT) (j : Nat) (h : j < l.length) : l.take (j + 1) = l.take j ++ [l.getD j default] := by
  rw [List.take_succ_eq_append_getElem h, List.getD_eq_getElem?_getD, List.getElem?_eq_getElem h]; rfl
set_option maxRecDepth 100000 in
set_option maxHeartbeats 1000000 in
theorem ref_any (n c B : Nat) (A : Option Addr) (l : List PT) (w : World) (h : Parts w B A n l) (hB : B ≤ w.heap.size) (hn : n ≤ 1000) : Calls Try.prog 12 #[.slice A n c] w (RowP 66 w l) := by
  obtain ⟨i0, hi, hz0, hz1, hz2⟩ := info_parts Try.info66
  have HI := Lib.hid (And.intro hi (And.intro hz0 (And.intro hz1 hz2)))
  have HP := Lib.hid h
  clear hi hz0 hz1 hz2 h
  go_enter Try.func12, Try.ntmps12
  go_wp2_with fail
  go_loopw [3, 4] (fun r i wr => ∃ j : Nat, j ≤ n ∧ i = .int .i64 (j : Int) ∧ wr.ownsRow w.heap.size 66 3 r j (pcells (l.take j)) ∧ Below w.heap.size w wr) (fun _ i _ => n - (intOf i).toNat)
  case atStart => exact ⟨0, by omega, rfl, own_nil _ _ _ _, Below.refl _ _⟩
  case round =>
    obtain ⟨j, hj, rfl, hown, hbel⟩ := hrel
    have HO := Lib.hid (And.intro hown hbel)
    clear hown
    by_cases hlt : j < n
    · obtain ⟨b, off, rfl, hb, hc⟩ := HP.out.2.2 (by omega)
      have hst := snoc_at l j (by rw [HP.out.1]; exact hlt)
      have hcj := hc j hlt
      generalize l.getD j default = p at hcj hst
      have HC : Hid (∀ W, Below w.heap.size w W → W.cell? ⟨b, off + j * 3, none⟩ = some (.int .u8 (p.k : Int)) ∧ W.cell? ⟨b, off + j * 3 + 1, none⟩ = some (.int .i64 p.n) ∧ W.cell? ⟨b, off + j * 3 + 2, none⟩ = some (.string p.s)) := Lib.hid fun W hW => by
        have hz : b < w.heap.size := by omega
        exact ⟨(hW.cell (p := ⟨b, _, none⟩) hz).trans hcj.1, (hW.cell (p := ⟨b, _, none⟩) hz).trans hcj.2.1, (hW.cell (p := ⟨b, _, none⟩) hz).trans hcj.2.2⟩
      have HS := Lib.hid hst
      have D0 : Below w.heap.size w wr.drew := hbel.drew
      have i1 : (0 : Int) ≤ j := by omega
      have i2 : (j : Int) < n := by omega
      clear hc hcj hst hbel
      have hownD : (wr.alloc (.cells #[.int .u8 (p.k : Int), .int .i64 p.n, .string p.s] 66)).drew.ownsRow w.heap.size 66 3 u3 j (pcells (l.take j)) := HO.out.1.alloc _
      have hcellD : ∀ i u, ([.int .u8 (p.k : Int), .int .i64 p.n, .string p.s] : List Value)[i]? = some u → (wr.alloc (.cells #[.int .u8 (p.k : Int), .int .i64 p.n, .string p.s] 66)).drew.cell? ((⟨wr.heap.size, 0, none⟩ : Addr).add i) = some u := cells3 wr _ _ _ _
      have hsizeD : w.heap.size ≤ (wr.alloc (.cells #[.int .u8 (p.k : Int), .int .i64 p.n, .string p.s] 66)).drew.heap.size := by have := HO.out.2.size; show w.heap.size ≤ (wr.alloc _).heap.size; simp; omega
      have honeD : ∀ u ∈ ([.int .u8 (p.k : Int), .int .i64 p.n, .string p.s] : List Value), u.oneCell' = true := by simp [Value.oneCell']
      have hlenD : j + 1 ≤ maxLen := by unfold maxLen; omega
      have hbytD : (j + 1) * 32 ≤ 140737488355328 := by omega
      have HD := Lib.hid (And.intro hownD (And.intro hcellD (And.intro hsizeD (And.intro honeD (And.intro hlenD hbytD)))))
      clear hownD hcellD hsizeD honeD hlenD hbytD
      go_wp2_with fail
      go_region_held3 (fun W => W.cell? ⟨b, off + j * 3, none⟩ = some (.int .u8 (p.k : Int)) ∧ W.cell? ⟨b, off + j * 3 + 1, none⟩ = some (.int .i64 p.n) ∧ W.cell? ⟨b, off + j * 3 + 2, none⟩ = some (.string p.s)) (first | exact HC.out _ D0 | exact HC.out _ (D0.alloc D0.size _) | exact HC.out _ D1) (first
        | (refine step_append_here rfl (.tmp 11) (.tmp 28) 27 rfl w.heap.size 66 i0 (.agg #[.int .u8 0, .int .i64 0, .string ⟨#[]⟩]) 3 32 Try.underlying27 HI.out.1 HI.out.2.1 HI.out.2.2.1 HI.out.2.2.2 rfl (by decide) u3 j (pcells (l.take j)) rfl HD.out.1 ⟨wr.heap.size, 0, none⟩ 1 1 [.int .u8 (p.k : Int), .int .i64 p.n, .string p.s] rfl rfl HD.out.2.1 HD.out.2.2.2.1 (by decide) HD.out.2.2.2.2.1 HD.out.2.2.2.2.2 HD.out.2.2.1 _ rfl ?_; intro g cap w1 hown1 hg1 _ _; have D1 := grow_below_drew HO.out.2 hg1 (fun g hg => (HO.out.1.lt g hg).1)))
      have ho2 : w1.ownsRow w.heap.size 66 3 (.slice (some ⟨g, 0, none⟩) (j + 1) cap) (j + 1) (pcells (l.take (j + 1))) := by
        rw [HS.out, pcells_snoc]
        exact hown1
      have HO2 := Lib.hid ho2
      have HD1 := Lib.hid D1
      clear ho2 hown1 hg1 D1 D0
      go_wp2_with fail
      exact ⟨⟨j + 1, by omega, by go_num, HO2.out, HD1.out⟩, by simp [intOf]; omega⟩
    · obtain rfl : n = j := by omega
      obtain ⟨A1, c1, rfl⟩ := own_slice HO.out.1
      have hfull := HO.out.1
      rw [List.take_of_length_le (by rw [HP.out.1]; omega)] at hfull
      have HF := Lib.hid hfull
      clear hfull
      go_wp2_with fail
      go_ret
      obtain rfl : n = l.length := HP.out.1.symm
      exact ⟨A1, c1, rfl, HF.out, HO.out.2⟩
end Go.Proofs.Ytbafbhnnonfkpaa
