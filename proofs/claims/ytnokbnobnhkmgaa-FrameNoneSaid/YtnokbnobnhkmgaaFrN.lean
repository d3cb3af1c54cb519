/- Layer 7, the program: a stream made, asked, fed, passed on. -/
import Derived.Test.YtnokbnobnhkmgaaFrK
import Derived.BigRegion
import Derived.BigQuiet
import Derived.Deep.DeepCutAuto
namespace Go.Proofs.Ytnokbnobnhkmgaa
open Go.ChangeShapes Go.WideShapes Go.ChangeAt Go.RowKit

theorem run_cut_lhm {P : Program} (t e : TypeId) (i : TypeInfo) (ht : P.underlying t = some (.slice e)) (hi : P.info? e = some i) (hz : i.size = 1) (a : Option Addr) (len cap l h : Nat) (u v : Int) (hu : u = l) (hv : v = h) (h1 : l ≤ h) (h2 : h ≤ cap) (W : World) :
    (Instr.sliceAt t (.slice a len cap) (some (.int .i64 u)) (some (.int .i64 v)) (some (.int .i64 v))).run P W = .ok (.slice (if h = l then a else a.map (·.add l)) (h - l) (h - l)) W := by
  subst hu
  subst hv
  have hb := run_sliceBound (P := P) (w := W) .i64 (h : Int) cap .slice3Acap (by omega) (by omega)
  have hb2 := run_sliceBound (P := P) (w := W) .i64 (h : Int) h .slice3B (by omega) (by omega)
  have hl := run_sliceBound (P := P) (w := W) .i64 (l : Int) h .slice3C (by omega) (by omega)
  simp [Instr.sliceAt, Instr.slice, run_underlying ht, Instr.sliceBounds, hb, hb2, hl, sizeOf, typeInfo, hi, hz]
theorem fNew_any (w : World) : Calls Try.prog 23 #[] w fun e w' => ∃ g H, e = .returned (.pointer (some ⟨g, 0, none⟩)) ∧ Stm w' H g [] false ∧ (∀ k ∈ H, w.heap.size ≤ k) ∧ Below w.heap.size w w' := by
  have hS : Stm (w.alloc (.cells #[.slice none 0 0, .int .i64 0, .bool false] 85)) [w.heap.size] w.heap.size [] false := ⟨by simp, fun k hk => by simp at hk; simp; omega, none, 0, 0, 0, [], Blk.new _ _ _, Kpt.nil _ _ _, rfl, Nat.le_refl _, .inl rfl, fun h => by cases h⟩
  have HS := Lib.hid hS
  clear hS
  go_enter Try.func23, Try.ntmps23
  go_wp2_with fail
  go_ret
  exact ⟨w.heap.size, [w.heap.size], rfl, HS.out, fun k hk => by simp at hk; omega, (Below.refl _ _).alloc (Nat.le_refl _) _⟩
theorem fDead_cell (g : Nat) (d : Bool) (w : World) (hc : w.cell? ⟨g, 2, none⟩ = some (.bool d)) : Calls Try.prog 27 #[.pointer (some ⟨g, 0, none⟩)] w fun e w' => e = .returned (.bool d) ∧ w' = w := by
  go_enter Try.func27, Try.ntmps27
  go_wp2_with fail
  go_ret
  exact ⟨rfl, rfl⟩
theorem fLeft_cell (g n c t : Nat) (A : Option Addr) (w : World) (h0 : w.cell? ⟨g, 0, none⟩ = some (.slice A n c)) (h1 : w.cell? ⟨g, 1, none⟩ = some (.int .i64 (t : Int))) (ht : t ≤ n) (hn : n ≤ 1000000000) : Calls Try.prog 28 #[.pointer (some ⟨g, 0, none⟩)] w fun e w' => e = .returned (.int .i64 ((n : Int) - t)) ∧ ∃ k, w' = w.drewN k := by
  have hw : IntKind.i64.wrap ((n : Int) - (t : Int)) = (n : Int) - (t : Int) := IntWalk.i64_in _ (by omega)
  go_enter Try.func28, Try.ntmps28
  go_wp2_with fail
  go_quiet (fail)
  go_wp2_with fail
  go_ret
  exact ⟨rfl, _, rfl⟩
theorem fDead_nil (w : World) : Calls Try.prog 27 #[.pointer none] w fun e w' => e = .returned (.bool true) ∧ Below w.heap.size w w' := by
  go_enter Try.func27, Try.ntmps27
  go_wp2_with fail
  go_ret
  exact ⟨rfl, Below.refl _ _⟩
theorem fLeft_nil (w : World) : Calls Try.prog 28 #[.pointer none] w fun e w' => e = .returned (.int .i64 0) ∧ Below w.heap.size w w' := by
  go_enter Try.func28, Try.ntmps28
  go_wp2_with fail
  go_ret
  exact ⟨rfl, Below.refl _ _⟩
theorem fFeed_nil (A : Option Addr) (n c : Nat) (w : World) : Calls Try.prog 25 #[.pointer none, .slice A n c] w fun e w' => e = .returned (.tuple #[]) ∧ Below w.heap.size w w' := by
  go_enter Try.func25, Try.ntmps25
  go_wp2_with fail
  refine (fDead_nil w).mono ?_
  rintro e w1 ⟨rfl, hb⟩
  go_wp2_with fail
  refine bodyPost_ret (results_none rfl _ _ _) rfl ?_
  exact ⟨rfl, hb⟩
theorem fNext_nil (w : World) : Calls Try.prog 29 #[.pointer none] w fun e w' => e = .returned (.tuple #[.agg #[.slice none 0 0, .int .i64 1], .bool false]) ∧ Below w.heap.size w w' := by
  go_enter Try.func29, Try.ntmps29
  go_wp2_with fail
  have K1 := (((Held.start w).new #[.pointer none] 48).new #[.slice none 0 0, .int .i64 1] 44).new #[.bool false] 4
  simp only [World.size_alloc] at K1
  have c1 := K1.drop.top.cell 0
  have c2 := K1.drop.top.cell 1
  have c3 := K1.top.cell 0
  simp only [List.getElem?_toArray, List.getElem?_cons_zero, List.getElem?_cons_succ] at c1 c2 c3
  refine bodyPost_ret (v := .tuple #[.agg #[.slice none 0 0, .int .i64 1], .bool false]) ?_ rfl ⟨rfl, K1.1⟩
  simp [results, Try.results29, go_sem, c1, c2, c3]
theorem fDead_any (g : Nat) (H l : List Nat) (d : Bool) (w : World) (hs : Stm w H g l d) (_hl : l.length ≤ 1000000) (_h : d = true ∨ (Fr.tkA l 0).2.2 ≠ 71) : Calls Try.prog 27 #[.pointer (some ⟨g, 0, none⟩)] w fun e w' => e = .returned (.bool d) ∧ Below w.heap.size w w' := by
  obtain ⟨h1, h2, A, n, c, t, K, hb, hK, hl', ht, hr, hd⟩ := hs
  exact (fDead_cell g d w (hb.cell 2)).mono fun e w' h => ⟨h.1, by rw [h.2]; exact Below.refl _ _⟩
theorem kept_len {w : World} {g : Nat} {H : List Nat} {A : Option Addr} {n c t : Nat} {K l : List Nat} (hK : Kpt w g H A n c K) (hl : l = K.drop t) : l.length = n - t := by rw [hl, List.length_drop, hK.2.1]
theorem fLeft_any (g m : Nat) (H l : List Nat) (d : Bool) (w : World) (hs : Stm w H g l d) (hl : l.length ≤ 1000000) (hm : l.length = m) (_h : d = true ∨ (Fr.tkA l 0).2.2 ≠ 71) : Calls Try.prog 28 #[.pointer (some ⟨g, 0, none⟩)] w fun e w' => e = .returned (.int .i64 (m : Int)) ∧ Below w.heap.size w w' := by
  obtain ⟨h1, h2, A, n, c, t, K, hb, hK, hl', ht, hr, hd⟩ := hs
  have hlen := kept_len hK hl'
  refine (fLeft_cell g n c t A w (hb.cell 0) (hb.cell 1) ht (by omega)).mono fun e w' h => ⟨?_, by obtain ⟨_, k, rfl⟩ := h; exact below_drewN (Below.refl _ _) k⟩
  rw [h.1]
  exact ret_int (by omega)
theorem Kpt.cut {w : World} {g : Nat} {H : List Nat} {A : Option Addr} {n c : Nat} {K : List Nat} (h : Kpt w g H A n c K) {k : Nat} (hk : k ≤ n) : Kpt w g H (if n = k then A else A.map (·.add k)) (n - k) (n - k) (K.drop k) := by
  obtain ⟨h1, h2, h3, h4, h5⟩ := h
  refine ⟨Nat.le_refl _, by rw [List.length_drop, h2], fun x hx => h3 x (List.mem_of_mem_drop hx), fun hn => ?_, fun ad had => ?_⟩
  · rcases A with _ | a
    · have := (h4 rfl).1; omega
    · split at hn <;> cases hn
  · rcases A with _ | a
    · split at had <;> cases had
    · obtain ⟨b, off, rfl, hb, hg, hc, _⟩ := h5 a rfl
      by_cases hnk : n = k
      · rw [if_pos hnk] at had
        injection had with had
        refine ⟨b, off, had.symm, hb, hg, fun j u hu => ?_, .inl rfl⟩
        rw [List.drop_eq_nil_of_le (by omega)] at hu
        simp [u8s] at hu
      · rw [if_neg hnk] at had
        injection had with had
        refine ⟨b, off + k, had.symm.trans (add_at b off k), hb, hg, fun j u hu => ?_, .inl rfl⟩
        rw [Nat.add_assoc]
        refine hc (k + j) u ?_
        unfold u8s at hu ⊢
        rw [List.map_drop, List.getElem?_drop] at hu
        exact hu
set_option maxRecDepth 100000 in
set_option maxHeartbeats 4000000 in
theorem fpass_any (g n c t nx : Nat) (A : Option Addr) (H K : List Nat) (d : Bool) (w : World) (hb : Blk w g 85 #[.slice A n c, .int .i64 (t : Int), .bool d]) (hK : Kpt w g H A n c K) (hH' : ∀ k ∈ H, k < w.heap.size) (ht : t + nx ≤ n) (hn : n ≤ 1000000000) :
    Calls Try.prog 36 #[.pointer (some ⟨g, 0, none⟩), .int .i64 (nx : Int)] w fun e w' => e = .returned (.tuple #[]) ∧ w.grownBy w' (some g) ∧
      ∃ (A' : Option Addr) (n' c' t' : Nat) (K' : List Nat), Blk w' g 85 #[.slice A' n' c', .int .i64 (t' : Int), .bool d] ∧ Kpt w' g H A' n' c' K' ∧ K'.drop t' = K.drop (t + nx) ∧ t' ≤ n' ∧ (t' = 0 ∨ t' < n' - t') := by
  obtain ⟨i0, hi, hz0, hz1, hz2⟩ := info_parts Try.info5
  have d0 := hb.cell 0
  have d1 := hb.cell 1
  have z0 := hb.frozen 0
  have z1 := hb.frozen 1
  simp only [List.getElem?_toArray, List.getElem?_cons_zero, List.getElem?_cons_succ] at d0 d1
  have hw : IntKind.i64.wrap ((t : Int) + (nx : Int)) = (t : Int) + (nx : Int) := IntWalk.i64_in _ (by omega)
  have hb1 := hb.set_ 1 (.int .i64 ((t : Int) + (nx : Int)))
  have hK1 := hK.keep (w' := w.setCell ⟨g, 1, none⟩ (.int .i64 ((t : Int) + (nx : Int)))) (fun k _ hk => Below.heap_setCell w ⟨g, 1, none⟩ _ k hk)
  have hg1 : w.grownBy (w.setCell ⟨g, 1, none⟩ (.int .i64 ((t : Int) + (nx : Int)))) (some g) := only_setCell (World.grownBy.refl _ _) 1 _
  have HK := Lib.hid (And.intro hb1 (And.intro hK1 hg1))
  obtain ⟨A', n', hcut, hKc⟩ : ∃ A' n', (∀ W, (Instr.sliceAt 24 (.slice A n c) (some (.int .i64 ((t : Int) + nx))) (some (.int .i64 (n : Int))) (some (.int .i64 (n : Int)))).run Try.prog W = .ok (.slice A' n' n') W) ∧ ∀ W, Kpt W g H A n c K → Kpt W g H A' n' n' (K.drop (t + nx)) :=
    ⟨_, _, run_cut_lhm (P := Try.prog) 24 5 i0 Try.underlying24 hi hz1 A n c (t + nx) n ((t : Int) + nx) (n : Int) (by omega) rfl ht hK.1, fun W h => h.cut ht⟩
  have HKC := Lib.hid hKc
  clear hKc
  have e0 := hK.1
  clear hb hK hb1 hK1 hg1
  go_enter Try.func36, Try.ntmps36
  go_wp2_with fail
  clear d0 d1 z0 z1
  obtain ⟨W1, hW⟩ : ∃ W, w.setCell ⟨g, 1, none⟩ (.int .i64 ((t : Int) + (nx : Int))) = W := ⟨_, rfl⟩
  rw [hW] at HK ⊢
  clear hW
  have d0 : W1.cell? ⟨g, 0, none⟩ = some (.slice A n c) := HK.out.1.cell 0
  have d1 : W1.cell? ⟨g, 1, none⟩ = some (.int .i64 ((t : Int) + (nx : Int))) := HK.out.1.cell 1
  have z0 := HK.out.1.frozen 0
  have z1 := HK.out.1.frozen 1
  have HL : Hid (∀ W, (∃ k, W = W1.drewN k) → Calls Try.prog 28 #[.pointer (some ⟨g, 0, none⟩)] W fun e w' => e = .returned (.int .i64 ((n : Int) - ((t : Int) + nx))) ∧ ∃ k, w' = W1.drewN k) := Lib.hid fun W hW => by
    obtain ⟨k, rfl⟩ := hW
    have e : (((t + nx : Nat)) : Int) = (t : Int) + nx := by omega
    refine (fLeft_cell g n c (t + nx) A (W1.drewN k) d0 (by rw [e]; exact d1) ht hn).mono ?_
    rintro e' w' ⟨rfl, k', rfl⟩
    exact ⟨ret_int (by rw [e]), k + k', by simp [World.drewN, Nat.add_assoc]⟩
  have E0 : Hid (∃ k, W1.drew = W1.drewN k) := Lib.hid ⟨1, rfl⟩
  have P : Hid (∀ W, (∃ k, W = W1.drewN k) → W.cell? ⟨g, 0, none⟩ = some (.slice A n c) ∧ W.cell? ⟨g, 1, none⟩ = some (.int .i64 ((t : Int) + nx))) := Lib.hid fun W hW => by
    obtain ⟨k, rfl⟩ := hW
    exact ⟨d0, d1⟩
  by_cases hge : n ≤ (t + nx) + (t + nx)
  · have q1 : (n : Int) - ((t : Int) + nx) ≤ (t : Int) + nx := by omega
    have q2 : ¬ ((t : Int) + nx < (n : Int) - ((t : Int) + nx)) := by omega
    go_region_held3 (fun W => W.cell? ⟨g, 0, none⟩ = some (.slice A n c) ∧ W.cell? ⟨g, 1, none⟩ = some (.int .i64 ((t : Int) + nx))) (first | with_reducible exact P.out _ E0.out | with_reducible exact P.out _ E1.out) (first
      | (go_at_call 28; (with_reducible refine (HL.out _ E0.out).mono ?_); rintro e V1 ⟨rfl, bb⟩; have E1 := Lib.hid bb; clear bb))
    go_wp2_with fail
    obtain ⟨W2, hW2⟩ : ∃ W, V1 = W := ⟨_, rfl⟩
    have H2 : Blk W2 g 85 (#[.slice A n c, .int .i64 (t : Int), .bool d].setIfInBounds 1 (.int .i64 ((t : Int) + nx))) ∧ Kpt W2 g H A n c K ∧ w.grownBy W2 (some g) := by
      rw [← hW2]
      obtain ⟨k, rfl⟩ := E1.out
      exact ⟨HK.out.1, HK.out.2.1.keep (fun _ _ _ => rfl), ⟨HK.out.2.2.os, HK.out.2.2.tape, HK.out.2.2.output, HK.out.2.2.size, HK.out.2.2.block⟩⟩
    rw [hW2]
    have H2 := Lib.hid H2
    clear d0 d1 z0 z1 HL HK P E0 hW2
    have d0 : W2.cell? ⟨g, 0, none⟩ = some (.slice A n c) := H2.out.1.cell 0
    have d1 : W2.cell? ⟨g, 1, none⟩ = some (.int .i64 ((t : Int) + nx)) := H2.out.1.cell 1
    have z0 := H2.out.1.frozen 0
    have z1 := H2.out.1.frozen 1
    clear E1
    go_region
    go_wp2_with fail
    have k1 := HKC.out _ H2.out.2.1
    have hg1 : W2.grownBy ((W2.setCell ⟨g, 0, none⟩ (.slice A' n' n')).setCell ⟨g, 1, none⟩ (.int .i64 0)).drew (some g) := only_drew (only_setCell (only_setCell (World.grownBy.refl _ _) 0 _) 1 _)
    go_end0
    exact ⟨rfl, H2.out.2.2.trans hg1, A', n', n', 0, K.drop (t + nx), (H2.out.1.set_ 0 _).set_ 1 _, k1.keep (fun k hk hne => hg1.block k (Nat.lt_of_lt_of_le (hH' k hk) H2.out.2.2.size) (fun e => hne (by injection e))), rfl, Nat.zero_le _, .inl rfl⟩
  · have q1 : ¬ (n : Int) - ((t : Int) + nx) ≤ (t : Int) + nx := by omega
    have q2 : ((t : Int) + nx < (n : Int) - ((t : Int) + nx)) := by omega
    go_region_held3 (fun W => W.cell? ⟨g, 0, none⟩ = some (.slice A n c) ∧ W.cell? ⟨g, 1, none⟩ = some (.int .i64 ((t : Int) + nx))) (first | with_reducible exact P.out _ E0.out | with_reducible exact P.out _ E1.out) (first
      | (go_at_call 28; (with_reducible refine (HL.out _ E0.out).mono ?_); rintro e V1 ⟨rfl, bb⟩; have E1 := Lib.hid bb; clear bb))
    go_wp2_with fail
    go_end0
    obtain ⟨k, rfl⟩ := E1.out
    exact ⟨rfl, ⟨HK.out.2.2.os, HK.out.2.2.tape, HK.out.2.2.output, HK.out.2.2.size, HK.out.2.2.block⟩, A, n, c, t + nx, K, HK.out.1, HK.out.2.1.keep (fun _ _ _ => rfl), rfl, ht, .inr (by omega)⟩
end Go.Proofs.Ytnokbnobnhkmgaa
