/- Layer 7's laws: told, all that a stream tells as far as it goes. -/
import Derived.Test.YtnokbnobnhkmgaaFrPs
import Derived.Test.YtnokbnobnhkmgaaFrH
import Derived.Deep.DeepCutAuto
namespace Go.Proofs.Ytnokbnobnhkmgaa
open Go.ChangeShapes Go.WideShapes Go.ChangeAt Go.RowKit

def ToldP (w : World) (H : List Nat) (g : Nat) (T : List (List Nat × Int)) (l : List Nat) (d : Bool) (e : Ending) (w' : World) : Prop :=
  ∃ A c V H', e = .returned (.slice A T.length c) ∧ w'.ownsRow w.heap.size 44 2 (.slice A T.length c) T.length V ∧ Founds w' w.heap.size V T ∧ Mv w w' H H' ∧ Stm w' H' g l d ∧ Off H' (.slice A T.length c) ∧ OffAll H' V
/-- What is told so far, and the stream as it stands. -/
def Told (w : World) (H : List Nat) (g : Nat) (v : Value) (L : List (List Nat × Int)) (V : List Value) (l : List Nat) (d : Bool) (H' : List Nat) (wr : World) : Prop :=
  (wr.ownsRow w.heap.size 44 2 v L.length V ∧ Founds wr w.heap.size V L) ∧ Mv w wr H H' ∧ Stm wr H' g l d ∧ Off H' v ∧ OffAll H' V
theorem Told.mv {w wr w1 : World} {H H' H1 : List Nat} {g : Nat} {v : Value} {L : List (List Nat × Int)} {V : List Value} {l l1 : List Nat} {d d1 : Bool} (h : Told w H g v L V l d H' wr) (hm : Mv wr w1 H' H1) (hs : Stm w1 H1 g l1 d1) : Told w H g v L V l1 d1 H1 w1 := by
  obtain ⟨⟨h1, h2⟩, h3, _, h5, h6⟩ := h
  have o1 := own_mv h1 hm h5
  have o2 := h2.mv hm h6
  exact ⟨⟨o1.1, o2.1⟩, h3.trans hm, hs, o1.2, o2.2⟩
theorem stm_below {w w' : World} {H : List Nat} {g : Nat} {l : List Nat} {d : Bool} (h : Stm w H g l d) (hb : Below w.heap.size w w') : Stm w' H g l d := stm_keep h fun k hk => hb.block k (stm_lt h k hk)
theorem Told.below {w wr w1 : World} {H H' : List Nat} {g : Nat} {v : Value} {L : List (List Nat × Int)} {V : List Value} {l : List Nat} {d : Bool} (h : Told w H g v L V l d H' wr) (hb : Below wr.heap.size wr w1) : Told w H g v L V l d H' w1 := h.mv (Mv.of_below hb H') (stm_below h.2.2.1 hb)
theorem Fr.tells_next {l b : List Nat} {nx : Nat} {er : Int} (h : Fr.tkA l 0 = (b, nx, er)) (h70 : er ≠ 70) : Fr.tells l false = (b, er) :: Fr.tells (if er = 71 then [] else l.drop nx) (er == 71) ∧ Fr.keeps l false = Fr.keeps (if er = 71 then [] else l.drop nx) (er == 71) ∧ Fr.dies l false = Fr.dies (if er = 71 then [] else l.drop nx) (er == 71) := by
  by_cases h71 : er = 71
  · subst h71
    have hb : b = [] := by
      rcases Fr.tkA_cases l 0 with h1 | h1 | h1
      · rw [h] at h1; injection h1
      · rw [h] at h1; injection h1
      · rw [h] at h1; dsimp only at h1; omega
    subst hb
    have := Fr.tells_long (l := l) (by rw [h])
    exact ⟨this.1, this.2.1, this.2.2⟩
  · have := Fr.tells_one (l := l) (by rw [h]; exact h70) (by rw [h]; exact h71)
    rw [h] at this
    rw [if_neg h71, beq_eq_false_iff_ne.2 h71]
    exact this
theorem Told.snoc {w w3 w2 : World} {H H1 : List Nat} {g g' cap : Nat} {v : Value} {L : List (List Nat × Int)} {V : List Value} {l : List Nat} {d : Bool} (h : Told w H g v L V l d H1 w3) {B m c : Nat} {A : Option Addr} {b : List Nat} {er : Int} (o : w3.ownsRow B 5 1 (.slice A m c) m (u8s b)) (hB : w.heap.size ≤ B) (off : Off H1 (.slice A m c)) (hm : m ≤ 1000000)
    (hown : w2.ownsRow w.heap.size 44 2 (.slice (some ⟨g', 0, none⟩) (L.length + 1) cap) (L.length + 1) (V ++ [.slice A m c, .int .i64 er])) (hg : w3.grownBy w2 v.ownBlock) (hl : v.ownBlock = some g' ∨ g' = w3.heap.size) :
    Told w H g (.slice (some ⟨g', 0, none⟩) (L.length + 1) cap) (L ++ [(b, er)]) (V ++ [.slice A m c, .int .i64 er]) l d H1 w2 := by
  obtain ⟨⟨h1, h2⟩, h3, h4, h5, h6⟩ := h
  have hk : ∀ k ∈ H1, w2.heap[k]? = w3.heap[k]? := fun k hk => hg.block k (stm_lt h4 k hk) (fun e => h5 k hk e.symm)
  refine ⟨⟨by rw [List.length_append]; exact hown, (h2.snoc (own_lower o hB) hm).grown h1 (by decide) hg⟩, ⟨h3.1.trans ⟨hg.os, hg.tape, hg.output, hg.size, fun k hk => by omega⟩, fun k hk hn => (hg.block k (Nat.lt_of_lt_of_le hk h3.1.size) (fun e => by have := (h1.lt k e.symm).1; omega)).trans (h3.2.1 k hk hn), h3.2.2⟩, stm_keep h4 hk, ?_, h6.append (OffAll.two off er)⟩
  · intro k hk he
    injection he with he
    subst he
    rcases hl with h | h
    · exact h5 g' hk h
    · have := stm_lt h4 g' hk; omega
theorem cells2_at {w : World} {g : Nat} (hg : g = w.heap.size) (t : TypeId) (u v : Value) : ∀ j z, ([u, v] : List Value)[j]? = some z → (w.alloc (.cells #[u, v] t)).cell? ((⟨g, 0, none⟩ : Addr).add j) = some z := by subst hg; exact cells2 w t u v
set_option maxRecDepth 100000 in
set_option maxHeartbeats 4000000 in
theorem told_any (g : Nat) (H l : List Nat) (d : Bool) (w : World) (hs : Stm w H g l d) (hl : l.length ≤ 2000) : Calls Try.prog 26 #[.pointer (some ⟨g, 0, none⟩)] w (ToldP w H g (Fr.tells l d) (Fr.keeps l d) (Fr.dies l d)) := by
  obtain ⟨i0, hi, hz0, hz1, hz2⟩ := info_parts Try.info44
  have HI := Lib.hid (And.intro hi (And.intro hz0 (And.intro hz1 hz2)))
  have HS := Lib.hid (And.intro hs (Fr.tells_len l d))
  clear hi hz0 hz1 hz2 hs
  go_enter Try.func26, Try.ntmps26
  go_wp2_with fail
  go_loopw [3, 4] (fun v i wr => ∃ (j : Nat) (L : List (List Nat × Int)) (V : List Value) (l' H' : List Nat) (d' : Bool), i = .int .i64 (j : Int) ∧ L.length = j ∧ l'.length ≤ 2000 ∧ (Fr.tells l d = L ++ Fr.tells l' d' ∧ Fr.keeps l d = Fr.keeps l' d' ∧ Fr.dies l d = Fr.dies l' d') ∧ Told w H g v L V l' d' H' wr) (fun _ i _ => 3001 - (intOf i).toNat)
  case atStart => exact ⟨0, [], [], l, H, d, rfl, rfl, hl, ⟨by simp, rfl, rfl⟩, ⟨own_nil _ _ _ _, Founds.nil _ _⟩, Mv.refl _ _, HS.out.1, Off.nil _, OffAll.nil _⟩
  case round =>
    obtain ⟨j, L, V, l', H', d', rfl, hj, hl', heq, htold⟩ := hrel
    obtain ⟨A0, c0, rfl⟩ := own_slice htold.1.1
    have hj2 : j ≤ 2001 := by
      have h1 := congrArg List.length heq.1
      rw [List.length_append] at h1
      have := HS.out.2
      omega
    have i1 : (j : Int) < 3000 := by omega
    have hLb : L.length ≤ 2001 := by omega
    have HO := Lib.hid (And.intro heq (And.intro htold hj))
    clear heq htold hj
    by_cases hstop : d' = true ∨ (Fr.tkA l' 0).2.2 = 70
    · have HN := Lib.hid (fNext_none g H' l' d' wr HO.out.2.1.2.2.1 (by omega) hstop)
      have hlast : Fr.tells l d = L ∧ Fr.keeps l d = l' ∧ Fr.dies l d = d' := by
        obtain ⟨e1, e2, e3⟩ := HO.out.1
        rw [e1, e2, e3]
        cases d' with
        | true => exact ⟨by rw [(Fr.tells_dead l').1, List.append_nil], by rw [(Fr.tells_dead l').2.1, stm_dead HO.out.2.1.2.2.1], (Fr.tells_dead l').2.2⟩
        | false =>
          have h70 : (Fr.tkA l' 0).2.2 = 70 := hstop.resolve_left (by decide)
          exact ⟨by rw [(Fr.tells_more h70).1, List.append_nil], (Fr.tells_more h70).2.1, (Fr.tells_more h70).2.2⟩
      have HL := Lib.hid hlast
      clear hlast hstop
      go_wp2_with fail
      refine HN.out.mono ?_
      rintro e w1 ⟨A1, c1, e0, rfl, H1, m1, s1⟩
      have HM := Lib.hid (And.intro m1 s1)
      clear m1 s1
      go_wp2_with fail
      go_ret
      have T := (HO.out.2.1.mv HM.out.1 HM.out.2).below ((Below.refl w1.heap.size w1).alloc (Nat.le_refl _) (.cells #[.slice A1 0 c1, .int .i64 e0] 44))
      rw [HL.out.1, HL.out.2.1, HL.out.2.2]
      exact ⟨A0, c0, V, H1, rfl, T.1.1, T.1.2, T.2.1, T.2.2.1, T.2.2.2.1, T.2.2.2.2⟩
    · obtain rfl : d' = false := by
        cases d' with
        | true => exact absurd (.inl rfl) hstop
        | false => rfl
      have h70 : (Fr.tkA l' 0).2.2 ≠ 70 := fun h => hstop (.inr h)
      obtain ⟨b, nx, er, htk⟩ : ∃ b nx er, Fr.tkA l' 0 = (b, nx, er) := ⟨_, _, _, rfl⟩
      rw [htk] at h70
      dsimp only at h70
      obtain ⟨m, hm⟩ : ∃ m, b.length = m := ⟨_, rfl⟩
      obtain ⟨l2, hl2⟩ : ∃ l2, l2 = if er = 71 then [] else l'.drop nx := ⟨_, rfl⟩
      obtain ⟨d2, hd2⟩ : ∃ d2, d2 = (er == 71) := ⟨_, rfl⟩
      have hnx := Fr.tells_next htk h70
      rw [← hl2, ← hd2] at hnx
      have hl22 : l2.length ≤ 2000 := by
        rw [hl2]
        split
        · simp
        · simp; omega
      have hm1 : m ≤ 1000000 := by
        have := Fr.tkA_cases l' 0
        rw [htk] at this
        dsimp only at this
        rcases this with h | h | h
        · injection h with h1 h2; rw [← hm, h1]; simp
        · injection h with h1 h2; rw [← hm, h1]; simp
        · omega
      have HN := Lib.hid (fNext_one g m nx H' l' b l2 d2 er wr HO.out.2.1.2.2.1 (by omega) htk hm h70 hl2 hd2)
      have HX := Lib.hid (And.intro hnx (And.intro hl22 (And.intro hm hm1)))
      clear hnx hl22 hm1 hm hstop h70 htk hl2 hd2
      go_wp2_with fail
      refine HN.out.mono ?_
      rintro e w1 ⟨A1, c1, rfl, H1, m1, s1, f1, o1⟩
      have T := (HO.out.2.1.mv m1 s1)
      have hsz := T.2.1.1.size
      have hsz1 := HO.out.2.1.2.1.1.size
      have HM := Lib.hid (And.intro T (And.intro f1 o1))
      clear m1 s1 f1 o1 T
      go_upto_region 4 with (at_builtin; refine wpList_append_lies _ rfl _ _ 36 rfl w.heap.size 44 i0 (.agg #[.slice none 0 0, .int .i64 0]) 2 32 Try.underlying36 HI.out.1 HI.out.2.1 HI.out.2.2.1 HI.out.2.2.2 rfl (by decide) _ L.length V rfl ((HM.out.1.1.1.alloc _).alloc _) ⟨w1.heap.size + 1, 0, none⟩ 1 1 [.slice A1 m c1, .int .i64 er] rfl rfl (cells2_at (by simp) _ _ _) (by simp [Value.oneCell']) (by decide) (by unfold maxLen; omega) (by omega) (by simp; omega) _ rfl ?_; intro g' cap w2 hown hgrow hlies _)
      have T := ((HM.out.1.below ((Below.refl w1.heap.size w1).alloc (Nat.le_refl _) _)).below ((Below.refl _ _).alloc (Nat.le_refl _) _)).snoc ((HM.out.2.2.alloc _).alloc _) hsz1 HM.out.2.1 HX.out.2.2.2 hown hgrow hlies
      have HT := Lib.hid T
      clear hown hgrow hlies T
      go_wp2_with fail
      refine ⟨⟨j + 1, L ++ [(b, er)], _, l2, H1, d2, by go_num, by rw [List.length_append]; simp; exact HO.out.2.2, HX.out.2.1, ⟨?_, ?_, ?_⟩, HT.out⟩, by simp [intOf]; omega⟩
      · rw [HO.out.1.1, HX.out.1.1]; simp
      · rw [HO.out.1.2.1, HX.out.1.2.1]
      · rw [HO.out.1.2.2, HX.out.1.2.2]
end Go.Proofs.Ytnokbnobnhkmgaa
