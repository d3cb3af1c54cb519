/- Layer 11, the program: are there such nodes, none of them twice? -/
import Derived.Test.YtgpcpjjdneimfaaDoorArU
namespace Go.Proofs.YtgpcpjjdneimfaaDoor
open Go.ChangeShapes Go.WideShapes Go.ChangeAt Go.RowKit Go.MapKept
open Go.ChangeMaps (setBlock)

theorem hanL_at (l : List (Int × Int)) (i : Nat) (x : Int × Int) (h : l[i]? = some x) : (hanL l)[i * 2]? = some (.int .i64 x.1) ∧ (hanL l)[i * 2 + 1]? = some (.int .i64 x.2) := by
  induction l generalizing i with
  | nil => simp at h
  | cons y r ih =>
    have e : hanL (y :: r) = .int .i64 y.1 :: .int .i64 y.2 :: hanL r := rfl
    rw [e]
    cases i with
    | zero =>
      simp at h
      subst h
      exact ⟨rfl, rfl⟩
    | succ i =>
      have := ih i (by simpa using h)
      rw [show (i + 1) * 2 = i * 2 + 1 + 1 by omega, show i * 2 + 1 + 1 + 1 = (i * 2 + 1) + 1 + 1 by omega]
      simpa using this
def hkey (x : Int × Int) : Value := .agg #[.int .i64 x.1, .int .i64 x.2]
theorem hkey_inj {x y : Int × Int} (h : hkey x = hkey y) : x = y := by
  unfold hkey at h
  injection h with h
  have := congrArg Array.toList h
  simp at this
  exact Prod.ext this.1 this.2
theorem has_small {L : List Ar.Pl} {k : Nat} (hf : Few L k) {x : Int × Int} (h : Ar.has L x = true) : 0 ≤ x.1 ∧ x.1 ≤ k ∧ 0 ≤ x.2 ∧ x.2 ≤ k := by
  obtain ⟨i, p, e1, hp, ht, _⟩ := (has_iff L x.1 x.2).1 h
  have h1 := hf.turn i p hp
  have h2 := hf.len
  have h3 := (List.getElem?_eq_some_iff.1 hp).1
  omega
/-- The rounds of hasEach: what the map has. -/
structure Each (L : List Ar.Pl) (l : List (Int × Int)) (es : Array MapEntry) (gm : Value → Option Value) : Prop where
  all : ∀ x ∈ l, Ar.has L x = true
  keys : ∀ x, (gm (hkey x)).isSome = true ↔ x ∈ l
  few : es.size ≤ l.length
  full : es.size = l.length ↔ l.Nodup
theorem Each.more {L : List Ar.Pl} {l : List (Int × Int)} {es es' : Array MapEntry} {gm : Value → Option Value} (h : Each L l es gm) {x : Int × Int} (hx : Ar.has L x = true) (u : Value) (hs : es'.size = if (gm (hkey x)).isSome then es.size else es.size + 1) : Each L (l ++ [x]) es' (updE gm (hkey x) (some u)) := by
  refine ⟨fun y hy => ?_, fun y => ?_, ?_, ?_⟩
  · rcases List.mem_append.1 hy with hy | hy
    · exact h.all y hy
    · rw [List.mem_singleton.1 hy]; exact hx
  · by_cases e : y = x
    · subst e
      rw [updE_same]
      simp
    · rw [updE_other _ _ _ (fun hh => e (hkey_inj hh)), h.keys y]
      simp [e]
  · rw [hs, List.length_append]
    have := h.few
    split <;> simp <;> omega
  · rw [hs, List.length_append, List.nodup_append]
    have h1 := h.few
    by_cases hm : x ∈ l
    · rw [if_pos ((h.keys x).2 hm)]
      constructor
      · intro e
        simp at e
        omega
      · rintro ⟨_, _, hd⟩
        exact absurd rfl (hd x hm x (by simp))
    · have hm' : ¬ (gm (hkey x)).isSome = true := fun e => hm ((h.keys x).1 e)
      rw [if_neg hm']
      have h2 := h.full
      constructor
      · intro e
        refine ⟨h2.1 (by simp at e; omega), by simp, fun a ha b hb e => ?_⟩
        rw [List.mem_singleton.1 hb] at e
        exact hm (e ▸ ha)
      · rintro ⟨hn, _, _⟩
        have := h2.2 hn
        simp
        omega
theorem ArMem.bound {w : World} {P : Nat → Prop} {g : Nat} {L : List Ar.Pl} {A : Option Nat} {c : Nat} {mv : Option Nat} {f : Nat → Nat → Nat} {V : List NdV} (h : ArMem w P g L A c mv f V) : ArMem w (fun b => P b ∧ b < w.heap.size) g L A c mv f V where
  blk := h.blk
  cells := h.cells
  words := h.words
  rep := h.rep
  nd := fun i p v hp hv => (h.nd i p v hp hv).mono fun b hb hh => ⟨⟨hh.1, hb⟩, hh.2⟩
  len := h.len
  pg := ⟨h.pg, h.blk.lt⟩
  pA := fun b e => ⟨h.pA b e, by
    subst e
    obtain ⟨cs, h1, _⟩ := h.cells
    exact h1.lt⟩
  pmv := fun b e => ⟨h.pmv b e, by
    subst e
    exact h.words.lt⟩
  low := fun b hb => h.low b hb.1
theorem ArIn.bound {w : World} {P : Nat → Prop} {g : Nat} {L : List Ar.Pl} (h : ArIn w P g L) : ArIn w (fun b => P b ∧ b < w.heap.size) g L := by
  obtain ⟨A, c, mv, f, V, h⟩ := h
  exact ⟨A, c, mv, f, V, h.bound⟩
set_option maxRecDepth 100000 in
theorem hasEach_any (w : World) (P F : Nat → Prop) (g : Nat) (L : List Ar.Pl) (h : ArIn w P g L) (hf : Few L 100000) (A : Option Addr) (n c : Nat) (l : List (Int × Int)) (hl : Cells w F A n 2 (hanL l)) (hn : n ≤ 1000000) :
    Calls Tryd.prog 41 #[.pointer (some ⟨g, 0, none⟩), .slice A n c] w (BoolP w (l.all (Ar.has L) && decide l.Nodup)) := by
  have hln : l.length = n := by have := hl.1; rw [hanL_len] at this; omega
  have hmm := @run_makeMap Tryd.prog
  obtain ⟨mb, hmb⟩ : ∃ mb, w.heap.size = mb := ⟨_, rfl⟩
  have hB : Below w.heap.size w (w.alloc (.map #[] 0)) := (Below.refl _ _).alloc (Nat.le_refl _) _
  have H := Lib.hid (And.intro (h.bound.below hB) (And.intro hf (And.intro ((hl.mono (G := fun b => b < w.heap.size) (fun b hb _ => hb)).below hB) (And.intro hln (And.intro hmb hB)))))
  have HNEW := Lib.hid (heap_alloc_new w (.map #[] 0))
  clear h hf hl hln hmb hB
  go_enter Tryd.func41, Tryd.ntmps41
  go_wp2_with fail
  rw [H.out.2.2.2.2.1]
  obtain ⟨W, hW⟩ : ∃ W, w.alloc (.map #[] 0) = W := ⟨_, rfl⟩
  rw [hW]
  have H1 : Hid (ArIn W (fun b => P b ∧ b < w.heap.size) g L ∧ Cells W (fun b => b < w.heap.size) A n 2 (hanL l) ∧ Below w.heap.size w W ∧ W.heap[mb]? = some (.map #[] 0)) := Lib.hid ⟨hW ▸ H.out.1, hW ▸ H.out.2.2.1, hW ▸ H.out.2.2.2.2.2, by rw [← hW, ← H.out.2.2.2.2.1]; exact HNEW.out⟩
  clear hW hmm
  go_loopw [11] (fun i wr => ∃ (j : Nat) (es : Array MapEntry) (clock : Nat) (gm : Value → Option Value), j ≤ n ∧ i = .int .i64 (j : Int) ∧ Turns (fun x => x = mb) W wr ∧ wr.heap[mb]? = some (.map es clock) ∧ Ent Tryd.prog 42 es clock gm ∧ Each L (l.take j) es gm) (fun i _ => n - (intOf i).toNat)
  case atStart =>
    refine ⟨0, _, _, _, by omega, rfl, Turns.refl _ _, H1.out.2.2.2, Ent.empty _ _, ⟨by simp, fun x => ?_, by simp, by simp⟩⟩
    simp
  case round =>
    obtain ⟨j, es, clock, gm, hj, rfl, ht, hmap, hent, hea⟩ := hrel
    by_cases hlt : j < n
    · obtain ⟨x, hx⟩ : ∃ x, l[j]? = some x := ⟨_, List.getElem?_eq_getElem (by rw [H.out.2.2.2.1]; exact hlt)⟩
      have hmbw := H.out.2.2.2.2.1
      obtain ⟨b, off, rfl, hbw, hbl, hc⟩ := (H1.out.2.1.turn ht (fun b hb e => by omega)).at_ hlt
      have hx1 := hanL_at l j x hx
      have z0 : wr.cell? ⟨b, off + j * 2, none⟩ = some (.int .i64 x.1) := (hc 0 (by omega)).trans hx1.1
      have z1 : wr.cell? ⟨b, off + j * 2 + 1, none⟩ = some (.int .i64 x.2) := (hc 1 (by omega)).trans hx1.2
      have har := H1.out.1.turn ht (fun b hb e => by omega)
      obtain ⟨W1, hW1⟩ : ∃ W1, wr.alloc (.cells #[.int .i64 x.1, .int .i64 x.2] 42) = W1 := ⟨_, rfl⟩
      obtain ⟨a, ha⟩ : ∃ a, wr.heap.size = a := ⟨_, rfl⟩
      have hb1 : Below wr.heap.size wr W1 := hW1 ▸ (Below.refl _ _).alloc (Nat.le_refl _) _
      have hbox : Blk W1 a 42 #[.int .i64 x.1, .int .i64 x.2] := by
        rw [← hW1, ← ha]
        exact Blk.new _ _ _
      have HC := Lib.hid (arHas_any W1 _ g L (har.below hb1) (Nat.le_trans H.out.2.1.len (by omega)) x.1 x.2)
      have htk : l.take (j + 1) = l.take j ++ [x] := by
        have hj' : j < l.length := by rw [H.out.2.2.2.1]; exact hlt
        rw [List.take_succ_eq_append_getElem hj']
        rw [List.getElem?_eq_getElem hj'] at hx
        rw [Option.some.inj hx]
      have d0 := hbox.cell 0
      have d1 := hbox.cell 1
      simp only [List.getElem?_toArray, List.getElem?_cons_zero, List.getElem?_cons_succ] at d0 d1
      have i1 : (0 : Int) ≤ (j : Int) := by omega
      have i2 : (j : Int) < (n : Int) := by omega
      have hmbl : mb < wr.heap.size := (Array.getElem?_eq_some_iff.1 hmap).1
      have HK := Lib.hid (And.intro ht (And.intro hmap (And.intro hent (And.intro hea (And.intro hb1 (And.intro hbox (And.intro htk (And.intro hx (And.intro hmbl (And.intro hW1 ha))))))))))
      clear ht hmap hent hea hb1 hbox htk hx hc hx1 har hmbw hbw hbl hmbl hW1 ha
      go_upto_region 5 with fail
      rw [HK.out.2.2.2.2.2.2.2.2.2.1, HK.out.2.2.2.2.2.2.2.2.2.2]
      clear z0 z1
      cases hh : Ar.has L x
      · rw [show (x.1, x.2) = x from rfl, hh] at HC
        have HH := Lib.hid hh
        clear hh
        go_wp2_with fail
        refine HC.out.mono ?_
        rintro e w1 ⟨rfl, hb2⟩
        have HB := Lib.hid hb2
        clear hb2
        go_wp2_with fail
        go_ret
        have hB2 : Turns (fun y => y = mb) w w1 := ((Turns.of_below H1.out.2.2.1).trans HK.out.1).trans (Turns.of_below (HK.out.2.2.2.2.1.trans (HB.out.mono HK.out.2.2.2.2.1.size)))
        refine ⟨?_, hB2.below (Nat.le_refl _) (fun y e => by have := H.out.2.2.2.2.1; omega)⟩
        have hall : l.all (Ar.has L) = false := by
          rw [List.all_eq_false]
          exact ⟨x, List.mem_of_getElem? HK.out.2.2.2.2.2.2.2.1, by rw [HH.out]; decide⟩
        rw [hall]
        rfl
      · rw [show (x.1, x.2) = x from rfl, hh] at HC
        have hsm := has_small H.out.2.1 hh
        obtain ⟨kl, hkl⟩ := pair_reads_handle x.1 x.2 (WalkArith.wf_i64 (by omega)) (WalkArith.wf_i64 (by omega))
        obtain ⟨es', clock', hent', hsz, hrun⟩ := HK.out.2.2.1.store handle_keyed Tryd.underlying108 hkl (.agg #[])
        have hea' := HK.out.2.2.2.1.more hh (.agg #[]) hsz
        rw [← HK.out.2.2.2.2.2.2.1] at hea'
        have HH := Lib.hid (And.intro hent' (And.intro hea' hrun))
        clear hent' hsz hrun hea' hkl hsm hh
        go_wp2_with fail
        refine HC.out.mono ?_
        rintro e w1 ⟨rfl, hb2⟩
        have hbox1 := HK.out.2.2.2.2.2.1.below hb2 HK.out.2.2.2.2.2.1.lt
        have e0 := hbox1.cell 0
        have e1 := hbox1.cell 1
        simp only [List.getElem?_toArray, List.getElem?_cons_zero, List.getElem?_cons_succ] at e0 e1
        have hmap1 : w1.heap[mb]? = some (.map es clock) := by
          have := HK.out.2.2.2.2.1.size
          have := HK.out.2.2.2.2.2.2.2.2.1
          rw [hb2.block mb (by omega), HK.out.2.2.2.2.1.block mb (by omega)]
          exact HK.out.2.1
        have hr := HH.out.2.2 mb w1 hmap1
        have HB := Lib.hid (And.intro hb2 hmap1)
        clear hb2 hbox1 hmap1 d0 d1
        go_wp2_with fail
        refine ⟨⟨j + 1, es', clock', _, by omega, by go_num, ?_, ?_, HH.out.1, HH.out.2.1⟩, by simp [intOf]; omega⟩
        · exact (HK.out.1.trans (Turns.of_below (HK.out.2.2.2.2.1.trans (HB.out.1.mono HK.out.2.2.2.2.1.size)))).setBlock _ (fun _ => rfl)
        · exact setBlock_heap_same (Array.getElem?_eq_some_iff.1 HB.out.2).1
    · obtain rfl : j = n := by omega
      rw [List.take_of_length_le (by rw [H.out.2.2.2.1]; exact Nat.le_refl _)] at hea
      have hlen : ∀ ty, (Builtin.len_ #[108] ty #[.map (some mb)]).run Tryd.prog wr = .ok (.int .i64 (es.size : Int)) wr := fun ty => by
        simp [Builtin.len_, run_underlying Tryd.underlying108, MapKept.run_getObj_map hmap, goInt, Result.andThen]
      have HK := Lib.hid (And.intro ht hea)
      obtain ⟨z, hz⟩ : ∃ z, es.size = z := ⟨_, rfl⟩
      rw [hz] at hlen
      have HZ := Lib.hid hz
      clear ht hmap hent hea hz
      go_wp2_with fail
      go_ret
      have hB2 : Turns (fun y => y = mb) w wr := (Turns.of_below H1.out.2.2.1).trans HK.out.1
      refine ⟨?_, hB2.below (Nat.le_refl _) (fun y e => by have := H.out.2.2.2.2.1; omega)⟩
      have hall : l.all (Ar.has L) = true := List.all_eq_true.2 HK.out.2.all
      have hfu := HK.out.2.full
      rw [HZ.out, H.out.2.2.2.1] at hfu
      rw [hall, Bool.true_and]
      show Ending.returned (.bool ((z : Int) == (j : Int))) = _
      congr 2
      rw [Bool.eq_iff_iff, beq_iff_eq, decide_eq_true_eq, ← hfu]
      omega
end Go.Proofs.YtgpcpjjdneimfaaDoor
