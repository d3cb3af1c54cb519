/- Layer 7's reference: all that stands in bytes. -/
import Derived.Test.YtnokbnobnhkmgaaRefFrC
import Derived.Test.YtnokbnobnhkmgaaFrL
import Derived.Deep.DeepCutAuto
namespace Go.Proofs.Ytnokbnobnhkmgaa
open Go.ChangeShapes Go.WideShapes Go.ChangeAt Go.RowKit

def AllP (t : TypeId) (w : World) (r : List (List Nat × Int) × Nat) (e : Ending) (w' : World) : Prop := ∃ (A : Option Addr) (c : Nat) (V : List Value), e = .returned (.tuple #[.slice A r.1.length c, .int .i64 (r.2 : Int)]) ∧ w'.ownsRow w.heap.size t 2 (.slice A r.1.length c) r.1.length V ∧ Founds w' w.heap.size V r.1 ∧ Below w.heap.size w w'
theorem Try.info53 : (Try.prog.info? 53).map (fun i => (i.zero, i.size, i.bytes)) = some (some (.agg #[.slice none 0 0, .int .i64 0]), 2, 32) := by kernel_rfl
theorem cells2 (w : World) (t : TypeId) (u v : Value) : ∀ j z, ([u, v] : List Value)[j]? = some z → (w.alloc (.cells #[u, v] t)).cell? ((⟨w.heap.size, 0, none⟩ : Addr).add j) = some z := by
  intro j z h
  rw [add_at, Nat.zero_add, (Blk.new w t _).cell]
  simpa using h
set_option maxRecDepth 100000 in
set_option maxHeartbeats 2000000 in
theorem refAll7_any (n c B : Nat) (A : Option Addr) (b : List Nat) (w : World) (hb : Bytes w B A n b) (hB : B ≤ w.heap.size) (hn : n ≤ 1000000) (hc : n ≤ c) : Calls Try.prog 21 #[.slice A n c] w (AllP 53 w (Fr.from_ b 0)) := by
  obtain ⟨i0, hi, hz0, hz1, hz2⟩ := info_parts Try.info53
  have HI := Lib.hid (And.intro hi (And.intro hz0 (And.intro hz1 hz2)))
  have hlen := hb.1
  have H256 : Hid (∀ x ∈ b, x < 256) := Lib.hid hb.2.1
  have HT : Hid (∀ W (a : Nat), Below w.heap.size w W → a ≤ n → Calls Try.prog 19 #[.slice A n c, .int .i64 (a : Int)] W (TakeP W (Fr.tk b (a : Int)))) := Lib.hid fun W a hW ha => refTake7_any n c B A b (a : Int) W (hb.below hW hB) (Nat.le_trans hB hW.size) hn hc (by omega)
  clear hi hz0 hz1 hz2 hb hB
  go_enter Try.func21, Try.ntmps21
  go_wp2_with fail
  go_loopw [4, 5, 6, 7, 8] (fun v i _ _ _ wr => ∃ (a : Nat) (L : List (List Nat × Int)) (V : List Value), a ≤ n ∧ i = .int .i64 (a : Int) ∧ wr.ownsRow w.heap.size 53 2 v L.length V ∧ Founds wr w.heap.size V L ∧ Fr.from_ b 0 = (L ++ (Fr.from_ b a).1, (Fr.from_ b a).2) ∧ L.length ≤ a ∧ Below w.heap.size w wr) (fun _ i _ _ _ _ => n + 1 - (intOf i).toNat)
  case atStart => exact ⟨0, [], [], by omega, rfl, own_nil _ _ _ _, Founds.nil _ _, by simp, by simp, Below.refl _ _⟩
  case round =>
    obtain ⟨a, L, V, ha, rfl, hown, hfo, hfr, hLa, hbel⟩ := hrel
    have HO := Lib.hid (And.intro hown (And.intro hfo (And.intro hfr hbel)))
    clear hown hfo hfr hbel
    obtain ⟨body, nx, e, htk⟩ : ∃ body nx e, Fr.tkA b a = (body, nx, e) := ⟨_, _, _, rfl⟩
    have hcases := Fr.tkA_cases b a
    rw [htk] at hcases
    dsimp only at hcases
    have hT := HT.out wr a HO.out.2.2.2 ha
    rw [Fr.tk_nat, htk] at hT
    dsimp only at hT
    have HTT := Lib.hid hT
    have HTK := Lib.hid htk
    have HCC := Lib.hid hcases
    clear hT htk hcases
    go_wp2_with fail
    refine HTT.out.mono ?_
    rintro e' w1 ⟨A1, c1, rfl, ho1, b1⟩
    dsimp only at ho1 ⊢
    have HB1 := Lib.hid (And.intro (below_next HO.out.2.2.2 b1) (And.intro (own_below HO.out.1 b1) (HO.out.2.1.below b1)))
    have HO1 := Lib.hid ho1
    clear b1 ho1
    by_cases h70 : e = 70
    · subst h70
      have hf := Fr.from_more (b := b) (a := a) (by rw [HTK.out])
      have hfin : Fr.from_ b 0 = (L, a) := by rw [HO.out.2.2.1, hf]; simp
      have HF := Lib.hid hfin
      obtain ⟨A2, c2, rfl⟩ := own_slice HO.out.1
      clear hf hfin
      go_wp2_with fail
      go_ret2
      rw [HF.out]
      exact ⟨A2, c2, V, rfl, HB1.out.2.1, HB1.out.2.2, HB1.out.1⟩
    · have i1 : (e == 70) = false := by rw [beq_eq_false_iff_ne]; exact h70
      have hbm : body.length ≤ 1000000 := by
        rcases HCC.out with h | h | h
        · injection h with h1 h2; rw [h1]; simp
        · injection h with h1 h2; rw [h1]; simp
        · omega
      have HBM := Lib.hid hbm
      clear hbm
      go_upto_region 7 with (at_builtin; refine wpList_append_own _ rfl _ _ 39 rfl w.heap.size 53 i0 (.agg #[.slice none 0 0, .int .i64 0]) 2 32 Try.underlying39 HI.out.1 HI.out.2.1 HI.out.2.2.1 HI.out.2.2.2 rfl (by decide) _ L.length V rfl (HB1.out.2.1.alloc _) ⟨w1.heap.size, 0, none⟩ 1 1 [.slice A1 body.length c1, .int .i64 e] rfl rfl (cells2 w1 _ _ _) (by simp [Value.oneCell']) (by unfold maxLen; omega) (by omega) (by have := HB1.out.1.size; simp; omega) ?_; intro v' w2 hown hgrow _)
      have hb2 := grow_below HB1.out.1 hgrow (fun g hg => (HB1.out.2.1.lt g hg).1)
      have hfo2 : Founds w2 w.heap.size (V ++ [.slice A1 body.length c1, .int .i64 e]) (L ++ [(body, e)]) := by
        have h1 := (HB1.out.2.2.snoc (own_lower HO1.out (by have := HO.out.2.2.2.size; omega)) HBM.out : Founds w1 w.heap.size (V ++ [.slice A1 body.length c1, .int .i64 e]) (L ++ [(body, e)]))
        have h2 := h1.below ((Below.refl w1.heap.size w1).alloc (Nat.le_refl _) (.cells #[.slice A1 body.length c1, .int .i64 e] 53))
        exact h2.grown (HB1.out.2.1.alloc _) (by decide) hgrow
      have HN2 := Lib.hid (And.intro hown (And.intro hfo2 hb2))
      clear hown hgrow hfo2 hb2
      by_cases h71 : e = 71
      · subst h71
        have hf := Fr.from_long (b := b) (a := a) (by rw [HTK.out])
        have hbn : body = [] := by
          rcases HCC.out with h | h | h
          · injection h with h1 h2
          · injection h with h1 h2
          · omega
        subst hbn
        have hfin : Fr.from_ b 0 = (L ++ [([], 71)], a) := by rw [HO.out.2.2.1, hf]
        have HF := Lib.hid hfin
        obtain ⟨A2, c2, rfl⟩ := own_slice HN2.out.1
        clear hf hfin
        go_wp2_with fail
        go_ret2
        rw [HF.out]
        exact ⟨A2, c2, _, by simp, by simpa using HN2.out.1, HN2.out.2.1, HN2.out.2.2⟩
      · have i2 : (e == 71) = false := by rw [beq_eq_false_iff_ne]; exact h71
        have hst := Fr.from_step (b := b) (a := a) (by rw [HTK.out]; exact h70) (by rw [HTK.out]; exact h71)
        rw [HTK.out] at hst
        dsimp only at hst
        have hnx : a + 8 ≤ nx ∧ nx ≤ n := by
          rcases HCC.out with h | h | h
          · injection h with h1 h2; injection h2 with h3 h4; exact absurd h4 h70
          · injection h with h1 h2; injection h2 with h3 h4; exact absurd h4 h71
          · omega
        have HS := Lib.hid hst
        clear hst
        go_wp2_with fail
        refine ⟨⟨nx, L ++ [(body, e)], _, hnx.2, rfl, by rw [List.length_append]; exact HN2.out.1, HN2.out.2.1, ?_, by rw [List.length_append]; simp; omega, HN2.out.2.2⟩, by simp [intOf]; omega⟩
        rw [HO.out.2.2.1, HS.out]
        simp
end Go.Proofs.Ytnokbnobnhkmgaa
