/- Layer 11, the program: Free, walked. -/
import Derived.Test.YtgpcpjjdneimfaaDoorArR
namespace Go.Proofs.YtgpcpjjdneimfaaDoor
open Go.ChangeShapes Go.WideShapes Go.ChangeAt Go.RowKit

set_option maxRecDepth 100000 in
theorem arFree_nil (w : World) (v : Value) : Calls Tryd.prog 23 #[.pointer none, v] w fun e w' => e = .returned (.int .i64 1) ∧ w = w' := by
  go_enter Tryd.func23, Tryd.ntmps23
  go_wp2_with fail
  go_ret
  exact ⟨rfl, rfl⟩
theorem grow_grow {P : Nat → Prop} {w w1 w2 : World} (h1 : w.heap.size ≤ w1.heap.size) (h2 : w1.heap.size ≤ w2.heap.size) : ∀ b, grow (grow P w w1) w1 w2 b → grow P w w2 b := by
  rintro b ((h | ⟨h, k⟩) | ⟨h, k⟩)
  · exact .inl h
  · exact .inr ⟨h, by omega⟩
  · exact .inr ⟨by omega, k⟩
theorem Turns.grows {P : Nat → Prop} {w w1 w2 : World} (h : Turns P w w1) (k : Turns (grow P w w1) w1 w2) : Turns P w w2 :=
  h.then k fun g hg hG => hG.elim id (fun e => by omega)
theorem Turns.of_drew {F : Nat → Prop} {w w' : World} (h : Turns F w.drew w') : Turns F w w' := ⟨h.os, h.tape, h.output, h.size, h.block⟩
theorem PutAny.of_drew {w w' : World} {g n : Nat} {sl : Value} {mv : Option Nat} {c : Int} {S : Nat → Prop} {e : Ending} (h : PutAny w.drew g n sl mv c S e w') : PutAny w g n sl mv c S e w' := by
  obtain ⟨h0, mb, f', h1, h2, h3, h4, h5⟩ := h
  exact ⟨h0, mb, f', h1, h2, h3, h4.of_drew, h5⟩
set_option maxRecDepth 100000 in
theorem arFree_any (w : World) (P F : Nat → Prop) (g : Nat) (L : List Ar.Pl) (h : ArIn w P g L) (hf : Few L 100000) (A : Option Addr) (n c : Nat) (l : List (Int × Int)) (hl : Cells w F A n 2 (hanL l)) (hn : n ≤ 1000000) (hF : ∀ b, F b → ¬ P b) :
    Calls Tryd.prog 23 #[.pointer (some ⟨g, 0, none⟩), .slice A n c] w (FreeP w P g L l) := by
  have hE := Lib.hid (hasEach_any w P F g L h hf A n c l hl hn)
  have hln : l.length = n := by have := hl.1; rw [hanL_len] at this; omega
  have H := Lib.hid (And.intro h (And.intro hf (And.intro hl (And.intro hF hln))))
  clear h hf hl hF hln
  go_enter Tryd.func23, Tryd.ntmps23
  cases hok : (l.all (Ar.has L) && decide l.Nodup)
  · rw [hok] at hE
    have HO := Lib.hid hok
    clear hok
    go_wp2_with fail
    refine hE.out.mono ?_
    rintro e w1 ⟨rfl, hb⟩
    have HB := Lib.hid hb
    clear hb
    go_wp2_with fail
    go_ret
    exact .inr ⟨HO.out, rfl, HB.out⟩
  · rw [hok] at hE
    have HO := Lib.hid hok
    clear hok
    go_wp2_with fail
    refine hE.out.mono ?_
    rintro e w1 ⟨rfl, hb⟩
    have HB := Lib.hid hb
    clear hb
    go_wp2_with fail
    go_loopw [15] (fun i wr => ∃ j : Nat, j ≤ n ∧ i = .int .i64 (j : Int) ∧ ArIn wr (grow P w wr) g (freed L (l.take j)) ∧ Turns P w wr) (fun i _ => n - (intOf i).toNat)
    case atStart =>
      refine ⟨0, by omega, rfl, ?_, Turns.of_below HB.out⟩
      exact (H.out.1.below HB.out).mono (fun b hb => .inl hb) (grow_low H.out.1.low.2.1 H.out.1.low.1)
    case round =>
      obtain ⟨j, hj, rfl, har, ht⟩ := hrel
      have hall := Bool.and_eq_true _ _ ▸ HO.out
      by_cases hlt : j < n
      · obtain ⟨x, hx⟩ : ∃ x, l[j]? = some x := ⟨_, List.getElem?_eq_getElem (by rw [H.out.2.2.2.2]; exact hlt)⟩
        have hj' : j < l.length := by rw [H.out.2.2.2.2]; exact hlt
        have hxe : l[j] = x := by
          rw [List.getElem?_eq_getElem hj'] at hx
          exact Option.some.inj hx
        have htk : l.take (j + 1) = l.take j ++ [x] := by rw [List.take_succ_eq_append_getElem hj', hxe]
        have hhas : ∀ y ∈ l, Ar.has L y = true := List.all_eq_true.1 hall.1
        have hnd : l.Nodup := of_decide_eq_true hall.2
        have hnd1 : (l.take (j + 1)).Nodup := (List.take_sublist _ _).nodup hnd
        have hxm : x ∉ l.take j := by
          rw [htk, List.nodup_append] at hnd1
          intro hm
          exact hnd1.2.2 x hm x (by simp) rfl
        have hsub : ∀ y ∈ l.take j, Ar.has L y = true := fun y hy => hhas y (List.mem_of_mem_take hy)
        have hndj : (l.take j).Nodup := (List.take_sublist _ _).nodup hnd
        have hhx := freed_has (l.take j) x hsub hndj (hhas x (List.mem_of_getElem? hx)) hxm
        have hfew := freed_few (l.take j) H.out.2.1 hsub hndj
        obtain ⟨i, p, e1, hp, hpt, hpu⟩ := (has_iff _ x.1 x.2).1 hhx
        obtain ⟨x1, x2⟩ := x
        simp only at e1 hpt
        subst e1 hpt
        obtain ⟨A', c', mv, f, V, hM⟩ := har
        have hil : i < (freed L (l.take j)).length := (List.getElem?_eq_some_iff.1 hp).1
        have hLn := hfew.len
        obtain ⟨b, off, rfl, hbw, hbl, hc⟩ := ((H.out.2.2.1.mono (G := fun b => F b ∧ b < w.heap.size) (fun b hb hh => ⟨hh, hb⟩)).turn ht (fun b hb => H.out.2.2.2.1 b hb.1)).at_ hlt
        have hx1 := hanL_at l j _ hx
        have z0 : wr.cell? ⟨b, off + j * 2, none⟩ = some (.int .i64 (i : Int)) := (hc 0 (by omega)).trans hx1.1
        have z1 : wr.cell? ⟨b, off + j * 2 + 1, none⟩ = some (.int .i64 (p.turn : Int)) := (hc 1 (by omega)).trans hx1.2
        obtain ⟨W1, hW1⟩ : ∃ W1, wr.alloc (.cells #[.int .i64 (i : Int), .int .i64 (p.turn : Int)] 42) = W1 := ⟨_, rfl⟩
        obtain ⟨a, ha⟩ : ∃ a, wr.heap.size = a := ⟨_, rfl⟩
        have hb1 : Below wr.heap.size wr W1 := hW1 ▸ (Below.refl _ _).alloc (Nat.le_refl _) _
        have hbox : Blk W1 a 42 #[.int .i64 (i : Int), .int .i64 (p.turn : Int)] := by
          rw [← hW1, ← ha]
          exact Blk.new _ _ _
        have hM1 := hM.below hb1
        obtain ⟨b', v0, rfl, hv0, hrow⟩ := hM1.at_ hp
        obtain ⟨y0, y1, y2, y3, y4, y5⟩ := fits_nodeIn hrow
        obtain ⟨cs, hcs, hcap, hcm, hcz, hrows⟩ := hM1.cells
        have f2 := hcs.frozen (i * 6 + 2)
        have f3 := hcs.frozen (i * 6 + 3)
        have f4 := hcs.frozen (i * 6 + 4)
        have f5 := hcs.frozen (i * 6 + 5)
        have d0 := hbox.cell 0
        have d1 := hbox.cell 1
        simp only [List.getElem?_toArray, List.getElem?_cons_zero, List.getElem?_cons_succ] at d0 d1
        obtain ⟨N, hN⟩ : ∃ N, (freed L (l.take j)).length = N := ⟨_, rfl⟩
        have x0 : W1.cell? ⟨g, 0, none⟩ = some (.slice (some ⟨b', 0, none⟩) N c') := by
          have := hM1.blk.cell 0
          rw [hN] at this
          exact this
        rw [hN] at hil hLn
        have i1 : (0 : Int) ≤ (j : Int) := by omega
        have i2 : (j : Int) < (n : Int) := by omega
        have i3 : (0 : Int) ≤ (i : Int) := by omega
        have i4 : (i : Int) < (N : Int) := by omega
        have hab : a ≠ b' := by
          have := hM.cells
          obtain ⟨cs', hcs', _⟩ := hM.cells
          have := hcs'.lt
          omega
        have HK := Lib.hid (And.intro hM (And.intro ht (And.intro htk (And.intro hp (And.intro hpu (And.intro hb1 (And.intro hbox (And.intro hM1 (And.intro hW1 (And.intro ha (And.intro hN (And.intro hab hfew))))))))))))
        clear hM ht htk hp hpu hb1 hbox hM1 hx hxe hhas hnd hnd1 hxm hsub hndj hhx hc hx1 hrow hv0 hcs hcap hcz hrows hall hbw hbl hj' hW1 ha hN hab hfew y0 y1
        go_upto_region 8 with fail
        rw [HK.out.2.2.2.2.2.2.2.2.1, HK.out.2.2.2.2.2.2.2.2.2.1]
        clear z0 z1
        go_region
        obtain ⟨w2, hw2⟩ : ∃ w2, setNode W1 b' (i * 6 + 2) (.bool false) (.slice none 0 0) (.slice none 0 0) (.slice none 0 0) = w2 := ⟨_, rfl⟩
        change Exit.then _ _ _ _ (setNode W1 b' (i * 6 + 2) (.bool false) (.slice none 0 0) (.slice none 0 0) (.slice none 0 0)).drew
        rw [hw2]
        obtain ⟨hM, ht, htk, hp, hpu, hb1, hbox, hM1, hW1, ha, hN, hab, hfew⟩ := HK.out
        have t12 : Turns (fun y => y = b') W1 w2 := hw2 ▸ setNode_turn (Turns.refl _ _) _ _ _ _ _ (fun _ => rfl)
        obtain ⟨cs, hcs, -⟩ := hM1.cells
        have hbg : b' ≠ g := hcs.kind hM1.blk (by decide)
        have hbm : mv ≠ some b' := by
          rintro rfl
          exact hM1.words.ne hcs rfl
        have hb2 := t12.blk hM1.blk (fun e => hbg e.symm)
        have hw2w := hM1.words.keep (w' := w2) (fun mb e => t12.block mb (by subst e; exact hM1.words.lt) (by rintro rfl; exact hbm e))
        have hbox2 := t12.blk hbox hab
        have hfl : freeN (freed L (l.take j)) ≤ (freed L (l.take j)).length := List.countP_le_length
        have h646 : i < 64 ^ 6 := by
          have : (64 : Nat) ^ 6 = 68719476736 := by decide
          omega
        have hPut : Hid (∀ W, Below w2.heap.size w2 W → Calls Tryd.prog 42 #[.pointer (some ⟨g, 1, none⟩), .int .i64 (i : Int)] W (PutAny W g i _ mv (freeN (freed L (l.take j)) : Int) (Fr (freed L (l.take j))))) := Lib.hid fun W hW =>
          put_any W g i _ mv _ _ f (hb2.below hW hb2.lt) (hw2w.keep fun mb e => hW.block mb (by subst e; exact hw2w.lt)) hM1.rep h646 (by omega) (by omega)
        have hag : a ≠ g := by have := hM.blk.lt; omega
        have ham : mv ≠ some a := by
          rintro rfl
          have := hM.words.lt
          omega
        have PA : Hid (∀ W, Below w2.heap.size w2 W → W.cell? ⟨a, 0, none⟩ = some (.int .i64 (i : Int))) := Lib.hid fun W hW => (hbox2.below hW hbox2.lt).cell 0
        have PB : Hid (∀ W e W', Below w2.heap.size w2 W → PutAny W g i (.slice (adOf (some b')) (freed L (l.take j)).length c') mv (freeN (freed L (l.take j)) : Int) (Fr (freed L (l.take j))) e W' → W'.cell? ⟨a, 0, none⟩ = some (.int .i64 (i : Int))) := Lib.hid fun W e W' hW hp => by
          obtain ⟨-, mb, f', -, -, -, h4, -⟩ := hp
          exact (h4.blk (hbox2.below hW hbox2.lt) (by rintro (e | e); exact hag e; exact ham e)).cell 0
        have E0 : Hid (Below w2.heap.size w2 w2.drew.drew) := Lib.hid (Below.refl _ _).drew.drew
        have HW := Lib.hid (And.intro hw2 (And.intro t12 hbox2))
        clear hM ht htk hp hpu hb1 hbox hM1 hW1 ha hN hab hfew t12 hcs hbg hbm hb2 hw2w hbox2 hw2 hag ham hfl x0 y2 y3 y4 y5 f2 f3 f4 f5 d0 d1
        go_upto_region 9 with fail
        go_region_held3 (fun W => W.cell? ⟨a, 0, none⟩ = some (.int .i64 (i : Int))) (first | with_reducible exact PA.out _ E0.out | with_reducible exact PB.out _ _ _ E0.out E1.out | fail) (first
          | (go_at_call 42; (with_reducible refine (hPut.out _ E0.out).mono ?_); intro e w3 hq; have hqe := hq.1; subst hqe; have E1 := Lib.hid hq; clear hq))
        go_wp2_with fail
        obtain ⟨hM, ht, htk, hp, hpu, hb1, hbox, hM1, hW1, ha, hN, hab, hfew⟩ := HK.out
        obtain ⟨h1, h2⟩ := hM1.freeOne hp hpu HW.out.1 E1.out.of_drew.of_drew
        refine ⟨⟨j + 1, by omega, by go_num, ?_, ht.grows ((Turns.of_below hb1).trans h2)⟩, by simp [intOf]; omega⟩
        rw [htk, freed_snoc, free1_set hp]
        have s1 := ht.size
        have s2 := hb1.size
        have s3 := h2.size
        refine h1.mono ?_ (grow_low H.out.1.low.2.1 H.out.1.low.1)
        rintro y ((hy | ⟨hy, hy2⟩) | ⟨hy, hy2⟩)
        · exact .inl hy
        · exact .inr ⟨hy, by omega⟩
        · exact .inr ⟨by omega, hy2⟩
      · obtain rfl : j = n := by omega
        rw [List.take_of_length_le (by rw [H.out.2.2.2.2]; exact Nat.le_refl _)] at har
        have HF := Lib.hid (And.intro har ht)
        clear har ht hall
        go_wp2_with fail
        go_ret
        exact .inl ⟨HO.out, rfl, HF.out.1, HF.out.2⟩
end Go.Proofs.YtgpcpjjdneimfaaDoor
