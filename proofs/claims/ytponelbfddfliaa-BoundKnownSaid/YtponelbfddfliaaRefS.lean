/- Layer 4's reference: rows read. -/
import Derived.Test.YtponelbfddfliaaRefH
import Derived.Test.YtponelbfddfliaaRefC
import Derived.Deep.DeepCutAuto
namespace Go.Proofs.Ytponelbfddfliaa
open Go.ChangeShapes Go.WideShapes Go.ChangeAt Go.RowKit

theorem Try.info71 : (Try.prog.info? 71).map (fun i => (i.zero, i.size, i.bytes)) = some (some (.agg #[.int .u8 0, .int .i64 0, .string ⟨#[]⟩]), 3, 32) := by kernel_rfl
def pcells (l : List PT) : List Value := l.flatMap fun p => [.int .u8 (p.k : Int), .int .i64 p.n, .string p.s]
theorem pcells_len (l : List PT) : (pcells l).length = l.length * 3 := by
  induction l with
  | nil => rfl
  | cons p l ih => simp [pcells] at ih ⊢; omega
theorem pcells_snoc (l : List PT) (p : PT) : pcells (l ++ [p]) = pcells l ++ [.int .u8 (p.k : Int), .int .i64 p.n, .string p.s] := by simp [pcells]
theorem pcells_at (l : List PT) (i : Nat) (h : i < l.length) : (pcells l)[i * 3]? = some (.int .u8 ((l.getD i default).k : Int)) ∧ (pcells l)[i * 3 + 1]? = some (.int .i64 (l.getD i default).n) ∧ (pcells l)[i * 3 + 2]? = some (.string (l.getD i default).s) := by
  induction l generalizing i with
  | nil => simp at h
  | cons p l ih =>
    cases i with
    | zero => simp [pcells]
    | succ i =>
      have := ih i (by simpa using h)
      have e : ∀ j, (pcells (p :: l))[(i + 1) * 3 + j]? = (pcells l)[i * 3 + j]? := by
        intro j
        have : (i + 1) * 3 + j = (i * 3 + j) + 3 := by omega
        rw [this]
        show ([Value.int .u8 (p.k : Int), .int .i64 p.n, .string p.s] ++ pcells l)[i * 3 + j + 3]? = _
        rw [List.getElem?_append_right (by simp)]
        simp
      have e0 := e 0
      simp only [Nat.add_zero] at e0
      rw [e0, e 1, e 2]
      simpa using this
theorem Parts.of_own {w : World} {base n c : Nat} {A : Option Addr} {l : List PT} {e : TypeId} (h : w.ownsRow base e 3 (.slice A n c) n (pcells l)) (hl : ∀ p ∈ l, p.ok) : Parts w w.heap.size A n l := by
  have hlen : l.length = n := by have := h.1; rw [pcells_len] at this; omega
  refine ⟨hlen, hl, fun hn => ?_⟩
  obtain ⟨g, cap, hv, hc, hlt⟩ := h.form hn
  have hA : A = some ⟨g, 0, none⟩ := by injection hv
  subst hA
  refine ⟨g, 0, rfl, hlt, fun i hi => ?_⟩
  obtain ⟨h1, h2, h3⟩ := pcells_at l i (by omega)
  have c1 := h.cells (g := g) rfl _ _ h1
  have c2 := h.cells (g := g) rfl _ _ h2
  have c3 := h.cells (g := g) rfl _ _ h3
  rw [add_at] at c1 c2 c3
  exact ⟨c1, c2, c3⟩
theorem lax_step (s ks : List Nat) (i a : Nat) (hi : i < ks.length) : Ky.lax (ks.drop i) (s.drop a) = match Ky.fst (s.drop a) (ks.getD i 0) with
    | none => none
    | some q => (Ky.lax (ks.drop (i + 1)) (s.drop (a + q.2))).map (q.1 :: ·) := by
  rw [List.drop_eq_getElem_cons hi, List.getD_eq_getElem?_getD, List.getElem?_eq_getElem hi]
  simp only [Ky.lax, Option.getD_some, List.drop_drop]
  cases Ky.fst (s.drop a) ks[i] <;> rfl
theorem nums_drop (s : ByteArray) (a : Nat) : nums (s.extract a s.size) = (nums s).drop a := by
  simp [nums, List.extract_eq_take_drop, List.map_drop]
  exact List.take_of_length_le (by simp)
theorem cells3 (w : World) (t : TypeId) (u v x : Value) : ∀ j y, ([u, v, x] : List Value)[j]? = some y → (w.alloc (.cells #[u, v, x] t)).cell? ((⟨w.heap.size, 0, none⟩ : Addr).add j) = some y := by
  intro j y h
  rw [add_at, Nat.zero_add, (Blk.new w t _).cell]
  simpa using h
def ParseP (w : World) (o : Option (List Ky.Part)) (e : Ending) (w' : World) : Prop := match o with
  | none => e = .returned (.tuple #[.slice none 0 0, .bool false]) ∧ Below w.heap.size w w'
  | some l => ∃ (lp : List PT) (A : Option Addr) (c : Nat), e = .returned (.tuple #[.slice A lp.length c, .bool true]) ∧ tos lp = l ∧ Parts w' w'.heap.size A lp.length lp ∧ w'.ownsRow w.heap.size 71 3 (.slice A lp.length c) lp.length (pcells lp) ∧ Below w.heap.size w w'
set_option maxRecDepth 100000 in
set_option maxHeartbeats 2000000 in
theorem refParse_any (s : ByteArray) (n c B : Nat) (A : Option Addr) (ks : List Nat) (w : World) (hk : Bytes w B A n ks) (hB : B ≤ w.heap.size) (hs : s.size ≤ 1000000) (hn : n ≤ 1000) :
    Calls Try.prog 74 #[.string s, .slice A n c] w (ParseP w (Ky.parse (nums s) ks)) := by
  obtain ⟨i0, hi, hz0, hz1, hz2⟩ := info_parts Try.info71
  have HI := Lib.hid (And.intro hi (And.intro hz0 (And.intro hz1 hz2)))
  have HK := Lib.hid hk
  clear hi hz0 hz1 hz2 hk
  go_enter Try.func74, Try.ntmps74
  go_wp2_with fail
  go_loopw [6, 7, 8] (fun r at_ i wr => ∃ (j a : Nat) (l : List PT), j ≤ n ∧ i = .int .i64 (j : Int) ∧ a ≤ s.size ∧ at_ = .int .i64 (a : Int) ∧ wr.ownsRow w.heap.size 71 3 r j (pcells l) ∧ (∀ p ∈ l, p.ok) ∧ Ky.lax ks (nums s) = (Ky.lax (ks.drop j) ((nums s).drop a)).map (tos l ++ ·) ∧ Below w.heap.size w wr) (fun _ _ i _ => n - (intOf i).toNat)
  case atStart => exact ⟨0, 0, [], by omega, rfl, by omega, rfl, own_nil _ _ _ _, by simp, by simp [tos], Below.refl _ _⟩
  case round =>
    obtain ⟨j, a, l, hj, rfl, ha, rfl, hown, hok, hlax, hbel⟩ := hrel
    by_cases hlt : j < n
    · obtain ⟨b, off, rfl, hb, hc⟩ := HK.out.2.2 (by omega)
      have hcj := hc j hlt
      have hst := lax_step (nums s) ks j a (by rw [HK.out.1]; exact hlt)
      have hkl := HK.out.lt j
      generalize ks.getD j 0 = k at hcj hst hkl
      have HC : Hid (∀ W, Below w.heap.size w W → W.cell? ⟨b, off + j, none⟩ = some (.int .u8 (k : Int))) := Lib.hid fun W hW => (hW.cell (p := ⟨b, off + j, none⟩) (by show b < w.heap.size; omega)).trans hcj
      have D0 : Below w.heap.size w wr.drew := hbel.drew
      have hnd := nums_drop s a
      have hE : (s.extract a s.size).size ≤ 1000000 := by
        have := congrArg List.length hnd
        rw [nums_len, List.length_drop, nums_len] at this
        omega
      obtain ⟨E, hEE⟩ : ∃ E, s.extract a s.size = E := ⟨_, rfl⟩
      rw [hEE] at hnd hE
      rw [← hnd] at hst
      have HH := Lib.hid (And.intro hst (And.intro hlax hnd))
      have HO := Lib.hid (And.intro hown hok)
      have i1 : (0 : Int) ≤ j := by omega
      have i2 : (j : Int) < n := by omega
      have i3 : (0 : Int) ≤ a := by omega
      have i4 : (a : Int) ≤ s.size := by omega
      clear hcj hc hst hlax hown hok hnd hbel
      go_wp2_with fail
      go_cut [9, 10] (fun p9 p10 wx => ∃ (g : Nat) (pk : Nat) (pn : Int) (ps : ByteArray) (m : Nat), p9 = .pointer (some ⟨g, 0, none⟩) ∧ p10 = .int .i64 (m : Int) ∧ wx.cell? ⟨g, 0, none⟩ = some (.int .u8 (pk : Int)) ∧ wx.cell? ⟨g, 1, none⟩ = some (.int .i64 pn) ∧ wx.cell? ⟨g, 2, none⟩ = some (.string ps) ∧ (PT.mk pk pn ps).ok ∧ m ≤ E.size ∧ (k = 1 ∨ k = 2 → Ky.fst (nums E) k = if m = 0 then none else some ((PT.mk pk pn ps).to, m)) ∧ wx.ownsRow w.heap.size 71 3 u6 j (pcells l) ∧ Below w.heap.size w wx)
      case first =>
        have hz0 : w.heap.size ≤ wr.heap.size := D0.size
        go_region_held3 (fun W => W.cell? ⟨b, off + j, none⟩ = some (.int .u8 (k : Int))) (first | exact HC.out _ D0 | exact HC.out _ (D0.alloc D0.size _) | exact HC.out _ D1 | exact HC.out _ (D1.alloc D1.size _) | exact HC.out _ (((D1.setCell hz0 _).setCell hz0 _).setCell hz0 _)) (first
          | (go_at_call 84; (refine (refFirst_any E k _ hE).mono ?_); rintro e w1 ⟨⟨pk, pn, ps⟩, m, rfl, b1, hpo, hm, hf⟩; simp only [PT.val, partV]; have D1 := below_next D0 b1; have C1 : Below wr.drew.heap.size wr.drew w1 := b1)
          | (go_at_call 84; (refine (refFirst_any E k _ hE).mono ?_); rintro e w1 ⟨⟨pk, pn, ps⟩, m, rfl, b1, hpo, hm, hf⟩; simp only [PT.val, partV]; have D1 := below_next (D0.alloc D0.size (.cells #[.int .u8 0, .int .i64 0, .string ⟨#[]⟩] 71)) b1; have hbk : Blk w1 wr.heap.size 71 #[.int .u8 0, .int .i64 0, .string ⟨#[]⟩] := (Blk.new wr.drew 71 #[.int .u8 0, .int .i64 0, .string ⟨#[]⟩]).below b1 (by simp); have hc0 : w1.cell? ⟨wr.heap.size, 0, none⟩ = some (.int .u8 0) := hbk.cell 0; have hc1 : w1.cell? ⟨wr.heap.size, 1, none⟩ = some (.int .i64 0) := hbk.cell 1; have hc2 : w1.cell? ⟨wr.heap.size, 2, none⟩ = some (.string ⟨#[]⟩) := hbk.cell 2; have hf0 := hbk.frozen 0; have hf1 := hbk.frozen 1; have hf2 := hbk.frozen 2; have HBK := Lib.hid hbk; have C1 : Below wr.drew.heap.size wr.drew w1 := ((Below.refl _ _).alloc (Nat.le_refl _) _).trans (b1.mono (by simp)); clear hbk))
        all_goals (go_wp2_with fail)
        all_goals (go_meet)
        case rel =>
          have hb := Blk.new w1 71 #[.int .u8 (pk : Int), .int .i64 pn, .string ps]
          exact ⟨w1.heap.size, pk, pn, ps, m, rfl, rfl, hb.cell 0, hb.cell 1, hb.cell 2, hpo, hm, hf, own_below (show wr.drew.ownsRow _ _ _ _ _ _ from HO.out.1) (C1.alloc C1.size _), D1.alloc D1.size _⟩
        case rel =>
          have hb := ((HBK.out.set_ 0 (.int .u8 (pk : Int))).set_ 1 (.int .i64 pn)).set_ 2 (.string ps)
          exact ⟨wr.heap.size, pk, pn, ps, m, rfl, rfl, hb.cell 0, hb.cell 1, hb.cell 2, hpo, hm, hf, own_below (show wr.drew.ownsRow _ _ _ _ _ _ from HO.out.1) (((C1.setCell (Nat.le_refl _) _).setCell (Nat.le_refl _) _).setCell (Nat.le_refl _) _), ((D1.setCell hz0 _).setCell hz0 _).setCell hz0 _⟩
      case rest =>
      obtain ⟨g, pk, pn, ps, m, rfl, rfl, hc0, hc1, hc2, hpo, hm, hf, hown, hbel⟩ := hcut
      have hck := HC.out wc hbel
      have HOO := Lib.hid hown
      have HF := Lib.hid hf
      have HPO := Lib.hid hpo
      have HB := Lib.hid hbel
      clear hown hf hpo hbel D0
      by_cases hgood : m ≠ 0 ∧ (k = 1 ∨ k = 2)
      · obtain ⟨hm0, hk12⟩ := hgood
        have hgood : m ≠ 0 ∧ True := ⟨hm0, trivial⟩
        obtain rfl | rfl := hk12
        · have hmi : ((m : Int) == 0) = false := by rw [beq_eq_false_iff_ne]; omega
          have hmn : ¬ (m : Int) = 0 := by omega
          have hfs := HF.out (by omega)
          rw [if_neg hgood.1] at hfs
          have hes : E.size = s.size - a := by
            have := congrArg List.length HH.out.2.2
            rw [nums_len, List.length_drop, nums_len] at this
            exact this
          have ham : a + m ≤ s.size := by omega
          have HFS := Lib.hid hfs
          have HHM := Lib.hid (And.intro ham hes)
          clear hfs hes ham hgood
          go_wp2_with (at_builtin; refine wpList_append_own _ rfl _ _ 74 rfl w.heap.size 71 i0 (.agg #[.int .u8 0, .int .i64 0, .string ⟨#[]⟩]) 3 32 Try.underlying74 HI.out.1 HI.out.2.1 HI.out.2.2.1 HI.out.2.2.2 rfl (by decide) _ j _ rfl (HOO.out.alloc _) ⟨wc.heap.size, 0, none⟩ 1 1 [.int .u8 (pk : Int), .int .i64 pn, .string ps] rfl rfl (cells3 wc _ _ _ _) (by simp [Value.oneCell']) (by unfold maxLen; omega) (by omega) (by have := HB.out.size; simp; omega) ?_; intro v1 w1 ho1 hg1 _; have D1 := grow_below HB.out hg1 (fun g hg => (HOO.out.lt g hg).1))
          refine ⟨⟨j + 1, a + m, l ++ [⟨pk, pn, ps⟩], by omega, by go_num, HHM.out.1, by go_num, ?_, ?_, ?_, D1⟩, by simp [intOf]; omega⟩
          · rw [pcells_snoc]
            exact ho1
          · intro q hq
            rcases List.mem_append.1 hq with h | h
            · exact HO.out.2 q h
            · simp at h
              subst h
              exact HPO.out
          · rw [HH.out.2.1, ← HH.out.2.2, HH.out.1, HFS.out]
            simp only [Option.map_map]
            congr 1
            funext q
            simp [tos]
        · have hmi : ((m : Int) == 0) = false := by rw [beq_eq_false_iff_ne]; omega
          have hmn : ¬ (m : Int) = 0 := by omega
          have hfs := HF.out (by omega)
          rw [if_neg hgood.1] at hfs
          have hes : E.size = s.size - a := by
            have := congrArg List.length HH.out.2.2
            rw [nums_len, List.length_drop, nums_len] at this
            exact this
          have ham : a + m ≤ s.size := by omega
          have HFS := Lib.hid hfs
          have HHM := Lib.hid (And.intro ham hes)
          clear hfs hes ham hgood
          go_wp2_with (at_builtin; refine wpList_append_own _ rfl _ _ 74 rfl w.heap.size 71 i0 (.agg #[.int .u8 0, .int .i64 0, .string ⟨#[]⟩]) 3 32 Try.underlying74 HI.out.1 HI.out.2.1 HI.out.2.2.1 HI.out.2.2.2 rfl (by decide) _ j _ rfl (HOO.out.alloc _) ⟨wc.heap.size, 0, none⟩ 1 1 [.int .u8 (pk : Int), .int .i64 pn, .string ps] rfl rfl (cells3 wc _ _ _ _) (by simp [Value.oneCell']) (by unfold maxLen; omega) (by omega) (by have := HB.out.size; simp; omega) ?_; intro v1 w1 ho1 hg1 _; have D1 := grow_below HB.out hg1 (fun g hg => (HOO.out.lt g hg).1))
          refine ⟨⟨j + 1, a + m, l ++ [⟨pk, pn, ps⟩], by omega, by go_num, HHM.out.1, by go_num, ?_, ?_, ?_, D1⟩, by simp [intOf]; omega⟩
          · rw [pcells_snoc]
            exact ho1
          · intro q hq
            rcases List.mem_append.1 hq with h | h
            · exact HO.out.2 q h
            · simp at h
              subst h
              exact HPO.out
          · rw [HH.out.2.1, ← HH.out.2.2, HH.out.1, HFS.out]
            simp only [Option.map_map]
            congr 1
            funext q
            simp [tos]
      · have hnone : Ky.fst (nums E) k = none := by
          by_cases hk12 : k = 1 ∨ k = 2
          · rw [HF.out hk12, if_pos (by omega)]
          · unfold Ky.fst
            rw [if_neg (by omega), if_neg (by omega)]
        have hpn : Ky.parse (nums s) ks = none := by
          unfold Ky.parse
          rw [HH.out.2.1, ← HH.out.2.2, HH.out.1, hnone]
          rfl
        have HPN := Lib.hid hpn
        clear hnone hpn
        by_cases hm0 : m = 0
        · subst hm0
          go_wp2_with fail
          go_ret2
          rw [HPN.out]
          exact ⟨rfl, HB.out⟩
        · have hmi : ((m : Int) == 0) = false := by rw [beq_eq_false_iff_ne]; omega
          have hmn : ¬ (m : Int) = 0 := by omega
          have hk1 : ((k : Int) == 1) = false := by rw [beq_eq_false_iff_ne]; omega
          have hk2 : ((k : Int) == 2) = false := by rw [beq_eq_false_iff_ne]; omega
          have hk5 : ((k : Int) != 1) = true := by rw [bne, hk1]; rfl
          have hk6 : ((k : Int) != 2) = true := by rw [bne, hk2]; rfl
          have hk3 : ¬ (k : Int) = 1 := by omega
          have hk4 : ¬ (k : Int) = 2 := by omega
          go_wp2_with fail
          go_ret2
          rw [HPN.out]
          exact ⟨rfl, HB.out⟩
    · have hge : ¬ (j : Int) < n := by omega
      obtain rfl : n = j := by omega
      have hl : Ky.lax ks (nums s) = some (tos l) := by
        rw [hlax, List.drop_eq_nil_of_le (by rw [HK.out.1]; exact Nat.le_refl _)]
        simp [Ky.lax]
      obtain ⟨A1, c1, rfl⟩ := own_slice hown
      have hparts := Parts.of_own hown hok
      have hll := hparts.1
      have HL := Lib.hid (And.intro hl (And.intro hparts hll))
      have HOW := Lib.hid hown
      have HB := Lib.hid hbel
      clear hl hlax hparts hll hown hok hbel
      go_wp2_with fail
      refine (refPut_any n c1 wr.heap.size A1 l wr HL.out.2.1 (Nat.le_refl _) hn).mono ?_
      rintro e w1 ⟨U, rfl, hU, hUs, b1⟩
      have D1 := below_next HB.out b1
      by_cases hp : Ky.put (tos l) = nums s
      · have hus : U = s := nums_inj (by rw [hU, hp])
        have hpar : Ky.parse (nums s) ks = some (tos l) := by
          unfold Ky.parse
          rw [HL.out.1]
          simp [hp]
        have HPP := Lib.hid hpar
        have HPB := Lib.hid (HL.out.2.1.below b1 (Nat.le_refl _) |>.more b1.size)
        have HOB := Lib.hid (own_below HOW.out b1)
        subst hus
        clear hpar hU hUs b1 hp
        go_wp2_with fail
        go_ret2
        rw [HPP.out]
        have e := HL.out.2.2
        subst e
        exact ⟨l, A1, c1, rfl, rfl, HPB.out, HOB.out, D1⟩
      · have hne := text_ne (a := U) (b := s) (by rw [hU]; exact hp)
        have hpar : Ky.parse (nums s) ks = none := by
          unfold Ky.parse
          rw [HL.out.1]
          simp [hp]
        have HPP := Lib.hid hpar
        clear hpar hU hUs b1 hp
        go_wp2_with fail
        go_ret2
        rw [HPP.out]
        exact ⟨rfl, D1⟩
end Go.Proofs.Ytponelbfddfliaa
