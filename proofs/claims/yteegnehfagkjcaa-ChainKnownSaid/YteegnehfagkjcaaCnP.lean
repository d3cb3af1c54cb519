/- Made by tools/gen/cn.py. -/
/- Layer 15, the program: Drop. -/
import Derived.Test.YteegnehfagkjcaaCnL
namespace Go.Proofs.Yteegnehfagkjcaa
open Go.ChangeShapes Go.WideShapes Go.ChangeAt Go.RowKit

theorem step_copy_eq {P : Program} {w w' : World} {ops : Array Oper} {o : Oper} {a : Act} {K : Act → World → Prop} {Q : Exit → Act → World → Prop} {E : Prop} (hw : Region.wanted o (yielded ops a.tmps) = true) (s x : Operand) (t : TypeId)
    (ho : o.op = .call { callee := .builtin .copy, args := #[s, x], argTypes := #[t, t] }) {v xv v' : Value} (hs : a.eval s = v) (hx : a.eval x = xv) (hrun : (Builtin.copy_ #[t, t] o.type #[v, xv]).run P w = .ok v' w') (h : K (a.put o.dst v') w') :
    if Region.wanted o (yielded ops a.tmps) = true then Oper.wp P o a w K Q else E := by
  rw [if_pos hw]
  unfold Oper.wp
  simp [execOp, ho, resolve, invoke, builtin, hs, hx, hrun, Result.andThen]
  exact h
namespace Cn
theorem ix_erase {l : List Ver} {i : Nat} (_ : i < l.length) (m : Nat) : ix (l.eraseIdx i) m = if m < i then ix l m else ix l (m + 1) := by
  unfold ix
  rw [List.getD_eq_getElem?_getD, List.getElem?_eraseIdx]
  by_cases h : m < i
  · rw [if_pos h, if_pos h, List.getD_eq_getElem?_getD]
  · rw [if_neg h, if_neg h, List.getD_eq_getElem?_getD]
theorem right_erase {l : List Ver} (hr : right l = true) {i : Nat} (hi : i < l.length) : right (l.eraseIdx i) = true := by
  rw [right_iff]
  intro m hm
  rw [List.length_eraseIdx_of_lt hi] at hm
  have key : ∀ a b, a < b → b + 1 < l.length → (ix (l.eraseIdx i) a).e < (ix (l.eraseIdx i) b).e := by
    intro a b hab hb
    rw [ix_erase hi, ix_erase hi]
    by_cases h1 : a < i <;> by_cases h2 : b < i
    · rw [if_pos h1, if_pos h2]; exact rising hr _ _ hab (by omega)
    · rw [if_pos h1, if_neg h2]; exact rising hr _ _ (by omega) (by omega)
    · omega
    · rw [if_neg h1, if_neg h2]; exact rising hr _ _ (by omega) (by omega)
  have hpos : 0 < (ix (l.eraseIdx i) m).e ∧ vok (ix (l.eraseIdx i) m) = true := by
    rw [ix_erase hi]
    split
    · exact ⟨pos hr (by omega), ok_at hr (by omega)⟩
    · exact ⟨pos hr (by omega), ok_at hr (by omega)⟩
  refine ⟨?_, hpos.2⟩
  unfold prev
  by_cases h0 : m = 0
  · rw [if_pos h0]
    exact hpos.1
  · rw [if_neg h0]
    exact key _ _ (by omega) (by omega)
end Cn
/-- The versions ahead of one are moved up by one. -/
theorem moved_cells {cur : List Value} {o n i d : Nat} {l : List Cn.Ver} (hl : l.length = n) (hi : i < n) (hd : d = o + 6 ∨ i = 0) (hfit : o + n * 6 ≤ cur.length) (hx : (cur.drop o).take (n * 6) = vrL l) :
    ((cur.take d ++ vrL (l.take i) ++ cur.drop (d + (vrL (l.take i)).length)).drop o).take (n * 6) = vrL (l.take 1 ++ (l.take i ++ l.drop (i + 1))) := by
  have hlen : (vrL (l.take i)).length = i * 6 := by rw [vrL_len, List.length_take, hl, Nat.min_eq_left (by omega)]
  rcases Nat.eq_zero_or_pos i with h0 | h0
  · subst h0
    have e1 : vrL (l.take 0) = [] := by simp [vrL]
    rw [e1, List.append_nil, List.length_nil, Nat.add_zero, List.take_append_drop, hx]
    rw [List.take_zero, List.nil_append, Nat.zero_add, List.take_append_drop]
  · have hd : d = o + 6 := by omega
    subst hd
    have a1 : (cur.drop o).take 6 = vrL (l.take 1) := by
      have := vrL_take l 1
      rw [← hx, List.take_take, Nat.one_mul, Nat.min_eq_left (by omega)] at this
      exact this
    have a2 : ((cur.drop o).drop (6 + i * 6)).take (n * 6 - (6 + i * 6)) = vrL (l.drop (i + 1)) := by
      have := vrL_drop l (i + 1)
      rw [← hx, List.drop_take] at this
      rw [show 6 + i * 6 = (i + 1) * 6 by omega]
      exact this
    have hin : 6 + i * 6 ≤ n * 6 := by omega
    have b1 : (cur.take (o + 6)).drop o = (cur.drop o).take 6 := by rw [List.drop_take, show o + 6 - o = 6 by omega]
    have b2 : ((cur.drop o).take 6).length = 6 := by rw [List.length_take, List.length_drop]; omega
    rw [List.append_assoc, List.drop_append_of_le_length (by rw [List.length_take]; omega), b1, hlen]
    rw [List.take_append, b2, List.take_of_length_le (l := List.take 6 (List.drop o cur)) (i := n * 6) (by rw [b2]; omega), a1, List.take_append, hlen, List.take_of_length_le (l := vrL (List.take i l)) (i := n * 6 - 6) (by rw [hlen]; omega)]
    rw [show o + 6 + i * 6 = o + (6 + i * 6) by omega, ← List.drop_drop, show n * 6 - 6 - i * 6 = n * 6 - (6 + i * 6) by omega, a2, vrL_append, vrL_append]
def MutP (w : World) (g : Nat) (A : Option Addr) (l' : List Cn.Ver) (v : Value) (e : Ending) (w' : World) : Prop :=
  e = .returned v ∧ ∃ A' c' sp', ChAt w' g A' l'.length c' sp' l' ∧ (∀ b o p, A' = some ⟨b, o, p⟩ → (∃ o2 p2, A = some ⟨b, o2, p2⟩) ∨ w.heap.size ≤ b) ∧ Turns (fun b => b = g ∨ ∃ o p, A = some ⟨b, o, p⟩) w w'
set_option maxRecDepth 100000 in
set_option maxHeartbeats 4000000 in
theorem drop_any (w : World) (g n c sp x f : Nat) (A : Option Addr) (l : List Cn.Ver) (h : ChAt w g A n c sp l) (hn : n ≤ 100000) : Calls Try.prog 27 #[.pointer (some ⟨g, 0, none⟩), .int .u64 (x : Int), .int .u64 (f : Int)] w (MutP w g A (Cn.drop l x f).1 (.bool (Cn.drop l x f).2)) := by
  have hmf : ∀ (fn : Fn) (first cap : Array Value) (w : World), (Instr.makeFunc fn first cap).run Try.prog w = .ok (.func fn first cap) w := fun _ _ _ _ => rfl
  have HP := Lib.hid (place_any w g n c sp x f A l h (by omega))
  unfold byF at HP
  have HS := Lib.hid h
  cases hat : Cn.isAt l x f with
  | false =>
    have hp : Cn.place l x f = (0, false) := by unfold Cn.place; rw [hat]; rfl
    have hd : Cn.drop l x f = (l, false) := by unfold Cn.drop; rw [hat]; rfl
    rw [hp] at HP
    rw [hd]
    clear hp hd hat h
    go_enter Try.func27, Try.ntmps27
    go_wp2_with (go_at_call 39; (refine HP.out.mono ?_); rintro e w1 ⟨rfl, b1⟩; have B1 := Lib.hid b1; clear b1)
    go_ret
    have e1 := HS.out.len
    exact ⟨rfl, A, c, sp, by rw [e1]; exact HS.out.below B1.out, fun b o p e => .inl ⟨o, p, e⟩, Turns.of_below B1.out⟩
  | true =>
    have h0 : 0 < Cn.upto l x := by
      unfold Cn.isAt at hat
      rw [Bool.and_eq_true] at hat
      exact of_decide_eq_true hat.1
    have hle := Cn.upto_le l x
    obtain ⟨i, hi⟩ : ∃ i, Cn.upto l x - 1 = i := ⟨_, rfl⟩
    have hp : Cn.place l x f = (i, true) := by unfold Cn.place; rw [hat, hi]; rfl
    have hd : Cn.drop l x f = (l.eraseIdx i, true) := by unfold Cn.drop; rw [hat, hi]; rfl
    rw [hp] at HP
    rw [hd]
    have hin : i < n := by have := h.len; omega
    obtain ⟨i0, hi0, hz0, hz1, hz2⟩ := info_parts Try.info35
    rcases h.row with ⟨-, hn0, -, -⟩ | ⟨b, o, cur, hA, -, hb, hnc, hcm, hfit, hxs⟩
    · omega
    · subst hA
      obtain ⟨d, hdd⟩ : ∃ d, (if c = 1 then o else o + 6) = d := ⟨_, rfl⟩
      have hd6 : d = o + 6 ∨ i = 0 := by
        by_cases hc1 : c = 1
        · exact .inr (by omega)
        · rw [if_neg hc1] at hdd
          exact .inl hdd.symm
      have hdle : d + i * 6 ≤ cur.size := by
        have : n * 6 ≤ c * 6 := Nat.mul_le_mul_right 6 hnc
        rcases hd6 with h6 | h6
        · have : (i + 1) * 6 ≤ n * 6 := Nat.mul_le_mul_right 6 hin
          omega
        · subst h6
          by_cases hc1 : c = 1
          · rw [if_pos hc1] at hdd
            omega
          · rw [if_neg hc1] at hdd
            have : 1 ≤ c := by omega
            omega
      have hcut0 := fun W => run_cut_ls (P := Try.prog) 22 35 i0 Try.underlying22 hi0 6 hz1 (some ⟨b, o, none⟩) n c 1 1 rfl (by omega) W
      have hadr : (if c = 1 then some (⟨b, o, none⟩ : Addr) else (some (⟨b, o, none⟩ : Addr)).map (·.add (1 * 6))) = some ⟨b, d, none⟩ := by
        by_cases hc1 : c = 1
        · rw [if_pos hc1] at hdd ⊢
          rw [hdd]
        · rw [if_neg hc1] at hdd ⊢
          rw [Option.map_some, add_at, Nat.one_mul, hdd]
      have hcut1 : ∀ W, (Instr.sliceAt 22 (.slice (some ⟨b, o, none⟩) n c) (some (.int .i64 1)) none none).run Try.prog W = .ok (.slice (some ⟨b, d, none⟩) (n - 1) (c - 1)) W := fun W => by rw [← hadr]; exact hcut0 W
      have hcut2 := fun W => run_cut_h (P := Try.prog) 22 35 i0 Try.underlying22 hi0 (some ⟨b, o, none⟩) n c i (by omega) W
      clear hcut0 hadr
      have hcl := h.row.cells
      have HH := Lib.hid (And.intro hb (And.intro hcl (And.intro hi0 hz1)))
      have HN := Lib.hid (And.intro hdle (And.intro hd6 (And.intro hfit (And.intro hxs (And.intro hin hnc)))))
      have hblk := HS.out.blk
      have hbg : b ≠ g := blk_kind hblk hb (by decide)
      clear h hp hd hat h0 hle hi hdd hd6 hdle hxs hfit hcl hi0 hz0 hz1 hz2 hblk hb
      go_enter Try.func27, Try.ntmps27
      go_upto_region 4 with (go_at_call 39; (refine HP.out.mono ?_); rintro e w1 ⟨rfl, b1⟩; have B1 := Lib.hid b1; clear b1)
      have C1 := HS.out.below B1.out
      have q0 := C1.blk.cell 0
      simp only [List.getElem?_toArray, List.getElem?_cons_zero] at q0
      obtain ⟨w2, hw2⟩ : ∃ w2, w1.drew = w2 := ⟨_, rfl⟩
      have d2 : Below w1.heap.size w1 w2 := hw2 ▸ (Below.refl _ _).drew
      have C2 := C1.below d2
      have q2 := C2.blk.cell 0
      simp only [List.getElem?_toArray, List.getElem?_cons_zero] at q2
      have hb2 := (HH.out.1.below B1.out HH.out.1.lt).below d2 (HH.out.1.below B1.out HH.out.1.lt).lt
      have B2 := Lib.hid (below_next B1.out d2)
      have hsrc : ∀ j u, (vrL (l.take i))[j]? = some u → w2.cell? ((⟨b, o, none⟩ : Addr).add j) = some u := by
        intro j u hu
        have hc := (HH.out.2.1.below B2.out).2 (by omega)
        obtain ⟨b', o', e', -, -, hc⟩ := hc
        injection e' with e'
        injection e' with ea eb
        subst ea eb
        rw [add_at]
        refine hc j u ?_
        rw [← vrL_take, List.getElem?_take] at hu
        split at hu
        · exact hu
        · cases hu
      have hrun := run_copy_rowS (P := Try.prog) w2 22 22 3 35 i0 6 b d (n - 1) (c - 1) ⟨b, o, none⟩ i c cur 35 (vrL (l.take i)) Try.underlying22 HH.out.2.2.1 HH.out.2.2.2 hb2 (by rw [vrL_len, List.length_take, HS.out.len, Nat.min_eq_left (by omega)]; congr 1; exact (Nat.min_eq_left (by omega)).symm) hsrc (by rw [vrL_len, List.length_take, HS.out.len, Nat.min_eq_left (by omega)]; exact HN.out.1) (vrL_one _)
      obtain ⟨w3, hw3⟩ : ∃ w3, w2.setRow b (cur.toList.take d ++ vrL (l.take i) ++ cur.toList.drop (d + (vrL (l.take i)).length)).toArray = w3 := ⟨_, rfl⟩
      have hb3 : Blk w3 b 35 (cur.toList.take d ++ vrL (l.take i) ++ cur.toList.drop (d + (vrL (l.take i)).length)).toArray := hw3 ▸ blk_setRow hb2 _
      have T3 : Turns (fun k => k = b) w2 w3 := hw3 ▸ turns_setRow w2 b _
      rw [hw3] at hrun
      have hg3 := T3.blk C2.blk (fun e => hbg e.symm)
      have hrow : OwF w3 (fun _ => True) 35 6 (some ⟨b, o, none⟩) n c (vrL (l.take 1 ++ (l.take i ++ l.drop (i + 1)))) := by
        refine .inr ⟨b, o, _, rfl, trivial, hb3, HN.out.2.2.2.2.2, C2.row.le_max, ?_, ?_⟩
        · simp only [List.size_toArray, List.length_append, List.length_take, List.length_drop, Array.length_toList]
          have := HN.out.2.2.1
          have := HN.out.1
          have e : (vrL (l.take i)).length = i * 6 := by rw [vrL_len, List.length_take, HS.out.len, Nat.min_eq_left (by omega)]
          omega
        · have := HN.out.2.2.1
          have : n * 6 ≤ c * 6 := Nat.mul_le_mul_right 6 HN.out.2.2.2.2.2
          exact moved_cells HS.out.len hin HN.out.2.1 (by have e := cur.length_toList; omega) HN.out.2.2.2.1
      have hers : (l.take 1 ++ (l.take i ++ l.drop (i + 1))).drop 1 = l.eraseIdx i := by
        have e1 : (l.take 1).length = 1 := by rw [List.length_take, HS.out.len]; omega
        rw [List.drop_append, e1, Nat.sub_self, List.drop_zero, List.drop_of_length_le (by rw [e1]; exact Nat.le_refl _), List.nil_append, List.eraseIdx_eq_take_drop_succ]
      have hll : (l.take 1 ++ (l.take i ++ l.drop (i + 1))).length = n := by
        simp only [List.length_append, List.length_take, List.length_drop, HS.out.len]
        omega
      have hcutc := cut_any w3 g n c sp 1 (some ⟨b, o, none⟩) _ hg3 hrow hll C2.spl (by omega) (by omega) (by rw [hers]; exact Cn.right_erase HS.out.right (by rw [HS.out.len]; exact hin))
      unfold CutP at hcutc
      rw [hers] at hcutc
      have HCU := Lib.hid hcutc
      have HR := Lib.hid hrun
      have HT := Lib.hid (And.intro ((Turns.of_below (F := fun k => k = g ∨ ∃ o2 p, (some (⟨b, o, none⟩ : Addr)) = some ⟨k, o2, p⟩) B2.out).then (T3.mono (G := fun k => k = g ∨ ∃ o2 p, (some (⟨b, o, none⟩ : Addr)) = some ⟨k, o2, p⟩) (fun k _ e => .inr ⟨o, none, by rw [e]⟩)) (fun _ _ e => e)) (Nat.le_trans B2.out.size T3.size))
      clear C1 C2 d2 hb2 hsrc hrun hb3 T3 hg3 hrow hers hll hcutc hw3
      go_region_law (refine step_copy_eq rfl (.tmp 24) (.tmp 30) 22 rfl (v := .slice (some ⟨b, d, none⟩) (n - 1) (c - 1)) (xv := .slice (some ⟨b, o, none⟩) i c) (v' := goInt (Nat.min i (n - 1))) (w' := w3) (by simp [Act.eval, Act.put]) (by simp [Act.eval, Act.put]) HR.out ?_)
      all_goals
        go_wp2_with (go_at_call 42; (refine HCU.out.mono ?_); rintro e w4 ⟨rfl, A4, c4, sp4, hc4, hl4, ht4⟩; have H4 := Lib.hid (And.intro hc4 (And.intro hl4 ht4)); clear hc4 hl4 ht4)
        go_ret
        have hlen : (l.eraseIdx i).length = n - 1 := by rw [List.length_eraseIdx_of_lt (by rw [HS.out.len]; exact hin), HS.out.len]
        refine ⟨rfl, A4, c4, sp4, by rw [hlen]; exact H4.out.1, fun k o2 p e => ?_, HT.out.1.then (H4.out.2.2.mono (G := fun k => k = g ∨ ∃ o2 p, (some (⟨b, o, none⟩ : Addr)) = some ⟨k, o2, p⟩) (fun k _ e => .inl e)) (fun _ _ e => e)⟩
        rcases H4.out.2.1 k o2 p e with h5 | h5
        · exact .inl h5
        · exact .inr (Nat.le_trans HT.out.2 h5)
end Go.Proofs.Yteegnehfagkjcaa
