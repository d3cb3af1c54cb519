/- Layer 7, the program: what a stream tells next. -/
import Derived.Test.YtnokbnobnhkmgaaFrF
import Derived.Test.YtnokbnobnhkmgaaFrI
import Derived.Test.YtnokbnobnhkmgaaFrG
import Derived.StillTailTactics
namespace Go.Proofs.Ytnokbnobnhkmgaa
open Go.ChangeShapes Go.WideShapes Go.ChangeAt Go.RowKit
attribute [local go_sem] Oper.semAt_some

/-- What Next's loop holds ahead of a round. -/
def NextI (w : World) (H : List Nat) (g : Nat) (l : List Nat) (d : Bool) (V : World) : Prop :=
  Stm V H g l d ∧ Blk V w.heap.size 48 #[.pointer (some ⟨g, 0, none⟩)] ∧ Blk V (w.heap.size + 1) 44 #[.slice none 0 0, .int .i64 0] ∧ Blk V (w.heap.size + 1 + 1) 4 #[.bool false] ∧ Below w.heap.size w V
theorem stm_abides {T : Nat} {H : List Nat} {g : Nat} {l : List Nat} {d : Bool} (hH : ∀ k ∈ H, k < T) : Rng.Abides T fun V => Stm V H g l d := fun V V' r h hg h1 _ =>
  stm_keep h (fun k hk => hg.block k (stm_lt h k hk) (fun e => by injection e with e; have := hH k hk; omega))
theorem mv_abides {T : Nat} {w : World} {H : List Nat} (hT : w.heap.size ≤ T) : Rng.Abides T fun V => Mv w V H H := fun V V' r h hg h1 _ =>
  ⟨h.1.trans (below_zero hg), fun k hk hn => (hg.block k (Nat.lt_of_lt_of_le hk h.1.size) (fun e => by injection e with e; omega)).trans (h.2.1 k hk hn), fun _ h => .inl h⟩
theorem NextI.abides {T : Nat} {w : World} {H : List Nat} {g : Nat} {l : List Nat} {d : Bool} (hH : ∀ k ∈ H, k < w.heap.size) (hT : w.heap.size + 3 ≤ T) : Rng.Abides T (NextI w H g l d) := fun V V' r h hg h1 h2 => by
  obtain ⟨a1, a2, a3, a4, a5⟩ := h
  exact ⟨stm_abides (fun k hk => by have := hH k hk; omega) V V' r a1 hg h1 h2, Rng.abides_blk (.inl (by omega)) V V' r a2 hg h1 h2, Rng.abides_blk (.inl (by omega)) V V' r a3 hg h1 h2, Rng.abides_blk (.inl (by omega)) V V' r a4 hg h1 h2, Rng.abides_below (Nat.le_refl _) (by omega) V V' r a5 hg h1 h2⟩
/-- .. behind a round's assignments. -/
def NextA (w : World) (H : List Nat) (g : Nat) (l : List Nat) (d : Bool) (T n c t q r : Nat) (A A' : Option Addr) (k : Nat) (x : Option Addr × Nat) (a' : Act) (V : World) : Prop :=
  k = 0 ∧ NextI w H g l d V ∧ ReadyF l T 0 x V ∧ ∃ F, T + 3 ≤ F ∧ Blk V F 44 #[.slice x.1 (Fr.found l 0).1.length x.2, .int .i64 (Fr.found l 0).2] ∧
    a' = { tmps := #[.pointer (some ⟨g, 0, none⟩), .pointer (some ⟨w.heap.size, 0, none⟩), .pointer (some ⟨w.heap.size + 1, 0, none⟩), .pointer (some ⟨w.heap.size + 1 + 1, 0, none⟩), .pointer (some ⟨F, 0, none⟩), .int .i64 (Fr.place l 1 : Int), .pointer (some ⟨g, 0, none⟩), .bool false, undef, .pointer (some ⟨g, 0, none⟩), .pointer (some ⟨g, 0, none⟩), .pointer (some ⟨g, 0, none⟩), .slice A n c, .pointer (some ⟨g, 0, none⟩), .pointer (some ⟨g, 0, none⟩), .pointer (some ⟨g, 1, none⟩), .int .i64 (t : Int), .slice A' q r, .func (.func 42) #[] #[.pointer (some ⟨w.heap.size + 1 + 1 + 1, 0, none⟩)], .agg #[.slice x.1 (Fr.found l 0).1.length x.2, .int .i64 (Fr.found l 0).2], .int .i64 (Fr.place l 1 : Int), undef, undef, undef, undef, undef, undef, undef, undef, undef, undef, undef], defers := [] }
/-- .. where a round has left. -/
def NextX (w : World) (H : List Nat) (g : Nat) (l : List Nat) (d : Bool) (T : Nat) (cd : Code) (V : World) : Prop :=
  cd = .ret ∧ d = false ∧ ∃ (A1 : Option Addr) (c1 : Nat), Blk V (w.heap.size + 1) 44 #[.slice A1 (Fr.found l 0).1.length c1, .int .i64 (Fr.found l 0).2] ∧ Blk V (w.heap.size + 1 + 1) 4 #[.bool true] ∧
    Stm V H g (if (Fr.found l 0).2 = 71 then [] else l.drop (Fr.place l 1)) ((Fr.found l 0).2 == 71) ∧ Mv w V H H ∧ V.ownsRow (T + 3) 5 1 (.slice A1 (Fr.found l 0).1.length c1) (Fr.found l 0).1.length (u8s (Fr.found l 0).1)
theorem NextA.abides {w : World} {H : List Nat} {g : Nat} {l : List Nat} {d : Bool} {T n c t q r : Nat} {A A' : Option Addr} {k : Nat} {x : Option Addr × Nat} {a' : Act} (hH : ∀ k ∈ H, k < w.heap.size) (hT : w.heap.size + 3 ≤ T) : Rng.Abides T (NextA w H g l d T n c t q r A A' k x a') := fun V V' r h hg h1 h2 => by
  obtain ⟨a0, a1, a2, F, a3, a4, a5⟩ := h
  exact ⟨a0, NextI.abides hH hT V V' r a1 hg h1 h2, Rng.abides_own (Nat.le_refl _) V V' r a2 hg h1 h2, F, a3, Rng.abides_blk (.inr a3) V V' r a4 hg h1 h2, a5⟩
theorem NextX.abides {w : World} {H : List Nat} {g : Nat} {l : List Nat} {d : Bool} {T : Nat} {cd : Code} (hH : ∀ k ∈ H, k < w.heap.size) (hT : w.heap.size + 3 ≤ T) : Rng.Abides T (NextX w H g l d T cd) := fun V V' r h hg h1 h2 => by
  obtain ⟨a0, a1, A1, c1, a2, a3, a4, a5, a6⟩ := h
  exact ⟨a0, a1, A1, c1, Rng.abides_blk (.inl (by omega)) V V' r a2 hg h1 h2, Rng.abides_blk (.inl (by omega)) V V' r a3 hg h1 h2, stm_abides (fun k hk => by have := hH k hk; omega) V V' r a4 hg h1 h2, mv_abides (by omega) V V' r a5 hg h1 h2, Rng.abides_own (Nat.le_refl _) V V' r a6 hg h1 h2⟩
def NextPost (w : World) (H : List Nat) (g : Nat) (l : List Nat) (d : Bool) (e : Ending) (w' : World) : Prop :=
    ((Fr.from_ l 0).1.length = 0 ∧ (∃ A c e0, e = .returned (.tuple #[.agg #[.slice A 0 c, .int .i64 e0], .bool false])) ∧ StmP w H g l d w') ∨
    (0 < (Fr.from_ l 0).1.length ∧ d = false ∧ ∃ A c, e = .returned (.tuple #[.agg #[.slice A (Fr.found l 0).1.length c, .int .i64 (Fr.found l 0).2], .bool true]) ∧ StmB w H g (if (Fr.found l 0).2 = 71 then [] else l.drop (Fr.place l 1)) ((Fr.found l 0).2 == 71) A (Fr.found l 0).1.length c (Fr.found l 0).1 w')
set_option maxRecDepth 100000 in
set_option maxHeartbeats 4000000 in
theorem fNext_main (g : Nat) (H l : List Nat) (d : Bool) (w : World) (hs : Stm w H g l d) (hl : l.length ≤ 1000000) : Calls Try.prog 29 #[.pointer (some ⟨g, 0, none⟩)] w (NextPost w H g l d) := by
  obtain ⟨i0, hi, hz0, hz1, hz2⟩ := info_parts Try.info5
  have HST : Hid (∀ A n c W, Calls Try.prog 35 #[.slice A n c] W fun e w' => e = .returned (.func (.func 42) #[] #[.pointer (some ⟨W.heap.size, 0, none⟩)]) ∧ w' = W.alloc (.cells #[.slice A n c] 24)) := Lib.hid fun A n c W => fstanding_any n c A W
  have HS := Lib.hid hs
  obtain ⟨hgH, hH, A, n, c, t, K, hb, hK, hl1, ht, hr, hd⟩ := hs
  have hlen := kept_len hK hl1
  have hgl := hb.lt
  obtain ⟨A', q, r, hcut, hby, hqr⟩ : ∃ A' q r, (∀ W, (Instr.sliceAt 24 (.slice A n c) (some (.int .i64 (t : Int))) none none).run Try.prog W = .ok (.slice A' q r) W) ∧ Bytes w w.heap.size A' q l ∧ q ≤ r := by
    have h2 := (hK.bytes hH).cut (i := t) (c := c) ht hK.1
    rw [← hl1] at h2
    exact ⟨_, _, _, run_cut_l (P := Try.prog) 24 5 i0 Try.underlying24 hi hz1 A n c t (t : Int) rfl ht, h2, by have := hK.1; omega⟩
  have K1 := ((((Held.start w).new #[.pointer (some ⟨g, 0, none⟩)] 48).new #[.slice none 0 0, .int .i64 0] 44).new #[.bool false] 4)
  simp only [World.size_alloc] at K1
  obtain ⟨W1, hW⟩ : ∃ W, (((w.alloc (.cells #[.pointer (some ⟨g, 0, none⟩)] 48)).alloc (.cells #[.slice none 0 0, .int .i64 0] 44)).alloc (.cells #[.bool false] 4)) = W := ⟨_, rfl⟩
  have hz : W1.heap.size = w.heap.size + 1 + 1 + 1 := by rw [← hW]; simp
  rw [hW] at K1
  have c0 := K1.drop.drop.top.cell 0
  have hb1 := hb.below K1.1 hgl
  have d0 := hb1.cell 0
  have d1 := hb1.cell 1
  simp only [List.getElem?_toArray, List.getElem?_cons_zero, List.getElem?_cons_succ] at c0 d0 d1
  have HC := Lib.hid (And.intro K1 (And.intro hby (And.intro hqr (And.intro hgH (And.intro hH hd)))))
  have HW := Lib.hid hW
  clear K1 hby hqr hgH hd hb hb1 hK hl1 ht hr hlen hi hz0 hz1 hz2 hgl hW hH
  refine (callsIn_wide (n := 9)).1 ?_
  refine callsIn_of_wp_marks Try.func29 rfl trivial ?_ rfl
  simp only [Try.ntmps29, List.size_toArray, List.length_cons, List.length_nil, Nat.reduceAdd, Nat.reduceSub, Array.replicate_succ, Array.replicate_zero, List.push_toArray, List.append_toArray, List.nil_append, List.cons_append]
  refine wpIn_wide.2 ?_
  go_wp2_with fail
  rw [HW.out]
  go_still_tail 9, (by kernel_rfl)
  change wpList _ _ _ _ _ W1.drew
  have K2 := HC.out.1.drewN 1
  change Held w W1.drew _ at K2
  obtain ⟨W2, hW2⟩ : ∃ W, W1.drew = W := ⟨_, rfl⟩
  rw [hW2] at K2
  have hz2 : W2.heap.size = w.heap.size + 1 + 1 + 1 := by rw [← hW2]; exact hz
  rw [hW2]
  have K3 := K2.new #[.slice A' q r] 24
  rw [hz2] at K3
  clear hW2 d0 d1 c0 hz HW
  go_wp2_with fail
  refine (HST.out A' q r _).mono ?_
  rintro e w3 ⟨rfl, rfl⟩
  rw [hz2]
  obtain ⟨W0, hW0⟩ : ∃ W, W2.alloc (.cells #[.slice A' q r] 24) = W := ⟨_, rfl⟩
  have hz0 : W0.heap.size = w.heap.size + 1 + 1 + 1 + 1 := by rw [← hW0]; simp [hz2]
  rw [hW0] at K3 ⊢
  have HX : Hid (Blk W0 (w.heap.size + 1 + 1 + 1) 24 #[.slice A' q r]) := Lib.hid K3.top
  have hH := HC.out.2.2.2.2.1
  have h0 : NextI w H g l d W0 := ⟨stm_keep HS.out (fun k hk => K3.1.block k (hH k hk)), K3.drop.drop.drop.top, K3.drop.drop.top, K3.drop.top, K3.1⟩
  have H0 := Lib.hid h0
  have hby := HC.out.2.1.below K3.1 (Nat.le_refl _)
  have hlq := hby.1
  have HB := Lib.hid (And.intro hby HC.out.2.2.1)
  clear hW0 K2 K3 h0 hby hz2 HC
  go_wp2_with fail
  refine (wpIn_wide (n := 9)).1 ?_
  refine Rng.wp_range (gf := 42) (lb := #[.pointer (some ⟨w.heap.size + 1 + 1 + 1, 0, none⟩)]) rfl (enters_of Try.func42 (by kernel_rfl) rfl) (T := W0.heap.size) rfl (fun r h => by rcases h with rfl | ⟨h, _⟩ <;> omega)
    (fstanding_gives q r w.heap.size (w.heap.size + 1 + 1 + 1) 8 A' l W0 HB.out.1 (by omega) (by omega) HB.out.2 HX.out (by omega)) (fun _ _ => rfl)
    (fun k V => k = 0 ∧ NextI w H g l d V) (fun c _ V => NextX w H g l d W0.heap.size c V) (fun k => Rng.Abides.and (Rng.abides_pure _ _) (NextI.abides hH (by omega))) (fun c k => NextX.abides hH (by omega)) ⟨rfl, H0.out⟩
    (NextA w H g l d W0.heap.size n c t q r A A') (fun k x a' => NextA.abides hH (by omega)) ?assign ?body ?done ?stop
  case assign =>
    rintro l' k ⟨A1, c1⟩ V C hk ⟨rfl, hI⟩ hr hz hC
    have hal : Below V.heap.size V (V.alloc (.cells #[.slice A1 (Fr.found l 0).1.length c1, .int .i64 (Fr.found l 0).2] 44)) := (Below.refl _ _).alloc (Nat.le_refl _) _
    have HAL := Lib.hid (And.intro hal (And.intro hI (And.intro hr hC)))
    clear hal hI hr hC
    gi_wp2
    obtain ⟨a1, a2, a3, a4, a5⟩ := HAL.out.2.1
    refine HAL.out.2.2.2 _ _ (kept_below HAL.out.1 hz (fun r h => by rcases h with rfl | ⟨h, _⟩ <;> omega)) ⟨rfl, ⟨stm_keep a1 (fun k hk => HAL.out.1.block k (stm_lt a1 k hk)), a2.below HAL.out.1 a2.lt, a3.below HAL.out.1 a3.lt, a4.below HAL.out.1 a4.lt, below_next a5 HAL.out.1⟩, own_below HAL.out.2.2.1 HAL.out.1, V.heap.size, hz, Blk.new _ _ _, rfl⟩
  case body =>
    rintro l' k ⟨A1, c1⟩ a' V hk ⟨rfl, ⟨a1, a2, a3, a4, a5⟩, hr, F, hF, hFb, rfl⟩ hz
    obtain rfl : d = false := by
      cases d with
      | false => rfl
      | true =>
        have := stm_dead a1
        subst this
        rw [Fr.from_nil] at hk
        exact absurd hk (by simp)
    unfold ReadyF at hr
    have hnx : (Fr.tkA l 0).2.1 = Fr.place l 1 := rfl
    obtain ⟨body, er, hbe⟩ : ∃ x y, Fr.found l 0 = (x, y) := ⟨_, _, rfl⟩
    obtain ⟨nx, hnx⟩ : ∃ x, Fr.place l 1 = x := ⟨_, rfl⟩
    have hnl := Fr.place_le l 1
    rw [hnx] at hnl
    rw [hbe] at hr hFb
    dsimp only at hr hFb
    have d0 := hFb.cell 0
    have d1 := hFb.cell 1
    have b0 := a2.cell 0
    have e0 := a3.cell 0
    have e1 := a3.cell 1
    have e2 := a4.cell 0
    have g0 := a3.frozen 0
    have g1 := a3.frozen 1
    have g2 := a4.frozen 0
    simp only [List.getElem?_toArray, List.getElem?_cons_zero, List.getElem?_cons_succ] at d0 d1 b0 e0 e1 e2
    have HF := Lib.hid (And.intro hFb (And.intro a1 (And.intro a2 (And.intro a3 (And.intro a4 (And.intro a5 hr))))))
    have HBE := Lib.hid (And.intro hbe hnx)
    have hgw := hH g a1.1
    rw [hbe, hnx]
    clear hFb a1 a2 a3 a4 a5 hr hbe hk
    by_cases h71 : er = 71
    · subst h71
      obtain ⟨hgH, hlt, A2, n2, c2, t2, K2, hb2, hK2, hl2, ht2, hr2, -⟩ := HF.out.2.1
      have s0 := hb2.cell 0
      have s1 := hb2.cell 1
      have s2 := hb2.cell 2
      have f0 := hb2.frozen 0
      have f1 := hb2.frozen 1
      have f2 := hb2.frozen 2
      simp only [List.getElem?_toArray, List.getElem?_cons_zero, List.getElem?_cons_succ] at s0 s1 s2
      have HS2 := Lib.hid (And.intro hb2 (And.intro hlt hgH))
      have hFg : F ≠ g := by omega
      clear hb2 hK2 hl2 hr2 hlt hgH
      gi_wp2
      obtain ⟨S, hS⟩ : ∃ S, ((((((V.setCell ⟨g, 0, none⟩ (.slice none 0 0)).setCell ⟨g, 1, none⟩ (.int .i64 0)).setCell ⟨g, 2, none⟩ (.bool true)).setCell ⟨w.heap.size + 1, 0, none⟩ (.slice A1 body.length c1)).setCell ⟨w.heap.size + 1, 1, none⟩ (.int .i64 71)).setCell ⟨w.heap.size + 1 + 1, 0, none⟩ (.bool true)) = S := ⟨_, rfl⟩
      have hk : ∀ r, r ≠ g → r ≠ w.heap.size + 1 → r ≠ w.heap.size + 1 + 1 → S.heap[r]? = V.heap[r]? := fun r h1 h2 h3 => by
        rw [← hS]
        exact (Below.heap_setCell _ ⟨w.heap.size + 1 + 1, 0, none⟩ _ r h3).trans ((Below.heap_setCell _ ⟨w.heap.size + 1, 1, none⟩ _ r h2).trans ((Below.heap_setCell _ ⟨w.heap.size + 1, 0, none⟩ _ r h2).trans ((Below.heap_setCell _ ⟨g, 2, none⟩ _ r h1).trans ((Below.heap_setCell _ ⟨g, 1, none⟩ _ r h1).trans (Below.heap_setCell _ ⟨g, 0, none⟩ _ r h1)))))
      have hBV : Below 0 V S := by
        rw [← hS]
        exact ((((((Below.refl 0 V).setCell (p := ⟨g, 0, none⟩) (Nat.zero_le _) _).setCell (p := ⟨g, 1, none⟩) (Nat.zero_le _) _).setCell (p := ⟨g, 2, none⟩) (Nat.zero_le _) _).setCell (p := ⟨w.heap.size + 1, 0, none⟩) (Nat.zero_le _) _).setCell (p := ⟨w.heap.size + 1, 1, none⟩) (Nat.zero_le _) _).setCell (p := ⟨w.heap.size + 1 + 1, 0, none⟩) (Nat.zero_le _) _
      have k1 : Blk S (w.heap.size + 1) 44 #[.slice A1 body.length c1, .int .i64 71] := by
        rw [← hS]
        exact ((((((HF.out.2.2.2.1.far (by omega) _).far (by omega) _).far (by omega) _).set_ 0 _).set_ 1 _).far (by omega) _)
      have k2 : Blk S (w.heap.size + 1 + 1) 4 #[.bool true] := by
        rw [← hS]
        exact (((((HF.out.2.2.2.2.1.far (by omega) _).far (by omega) _).far (by omega) _).far (by omega) _).far (by omega) _).set_ 0 _
      have k3 : Blk S g 85 #[.slice none 0 0, .int .i64 0, .bool true] := by
        rw [← hS]
        exact (((((HS2.out.1.set_ 0 _).set_ 1 _).set_ 2 _).far (by omega) _).far (by omega) _).far (by omega) _
      rw [hS]
      clear hS
      have hvs := hBV.size
      have a5 := HF.out.2.2.2.2.2.1
      refine ⟨⟨hvs, fun r hr => hk r (by rcases hr with h | h; omega; exact h.elim) (by rcases hr with h | h; omega; exact h.elim) (by rcases hr with h | h; omega; exact h.elim)⟩, ?_⟩
      unfold NextX
      rw [HBE.out.1, HBE.out.2]
      refine ⟨rfl, rfl, A1, c1, k1, k2, ?_, ⟨(a5.mono (Nat.zero_le _)).trans hBV, fun k hk' hn => (hk k (fun e => hn (by rw [e]; exact HS2.out.2.2)) (by omega) (by omega)).trans (a5.block k hk'), fun _ h => .inl h⟩, own_same HF.out.2.2.2.2.2.2 (fun k e => by have := (HF.out.2.2.2.2.2.2.lt k e).1; exact hk k (by omega) (by omega) (by omega))⟩
      show Stm S H g [] true
      exact ⟨HS2.out.2.2, fun k hk' => Nat.lt_of_lt_of_le (HS2.out.2.1 k hk') hvs, none, 0, 0, 0, [], k3, Kpt.nil _ _ _, rfl, Nat.le_refl _, .inl rfl, fun _ => rfl⟩
    · obtain ⟨hgH, hlt, A2, n2, c2, t2, K2, hb2, hK2, hl2, ht2, hr2, -⟩ := HF.out.2.1
      have hkl := kept_len hK2 hl2
      have hP := fpass_any g n2 c2 t2 nx A2 H K2 false V hb2 hK2 hlt (by omega) (by omega)
      have HP := Lib.hid hP
      have z1 : (er == 71) = false := by rw [beq_eq_false_iff_ne]; exact h71
      have z2 : (er != 71) = true := by rw [bne_iff_ne]; exact h71
      have HL2 := Lib.hid (And.intro hgH (And.intro hlt hl2))
      clear hP hb2 hK2 hl2 hr2 hgH hlt
      gi_wp2_with (refine ⟨trivial, ?_⟩; gi_at_call 36; refine (CallsIn.inRound _ (callsIn_wide.2 HP.out)).mono ?_; rintro e V1 ⟨rfl, hg1, A3, n3, c3, t3, K3, hb3, hK3, hd3, ht3, hr3⟩; have hbF := (hg1.block F HF.out.1.lt (fun e => by injection e with e; omega)).trans HF.out.1; have hbR := (hg1.block _ HF.out.2.2.2.1.lt (fun e => by injection e with e; omega)).trans HF.out.2.2.2.1; have hbB := (hg1.block _ HF.out.2.2.2.2.1.lt (fun e => by injection e with e; omega)).trans HF.out.2.2.2.2.1; have y0 := Blk.cell hbF 0; have y1 := Blk.cell hbF 1; have y2 := Blk.cell hbR 0; have y3 := Blk.cell hbR 1; have y4 := Blk.cell hbB 0; have y5 := Blk.frozen hbR 0; have y6 := Blk.frozen hbR 1; have y7 := Blk.frozen hbB 0; simp only [List.getElem?_toArray, List.getElem?_cons_zero, List.getElem?_cons_succ] at y0 y1 y2 y3 y4)
      clear y0 y1 y2 y3 y4 y5 y6 y7
      obtain ⟨S, hS⟩ : ∃ S, (((V1.setCell ⟨w.heap.size + 1, 0, none⟩ (.slice A1 body.length c1)).setCell ⟨w.heap.size + 1, 1, none⟩ (.int .i64 er)).setCell ⟨w.heap.size + 1 + 1, 0, none⟩ (.bool true)) = S := ⟨_, rfl⟩
      have hk1 : ∀ r, r ≠ w.heap.size + 1 → r ≠ w.heap.size + 1 + 1 → S.heap[r]? = V1.heap[r]? := fun r h2 h3 => by
        rw [← hS]
        exact (Below.heap_setCell _ ⟨w.heap.size + 1 + 1, 0, none⟩ _ r h3).trans ((Below.heap_setCell _ ⟨w.heap.size + 1, 1, none⟩ _ r h2).trans (Below.heap_setCell _ ⟨w.heap.size + 1, 0, none⟩ _ r h2))
      have hk : ∀ r, r < V.heap.size → r ≠ g → r ≠ w.heap.size + 1 → r ≠ w.heap.size + 1 + 1 → S.heap[r]? = V.heap[r]? := fun r h0 h1 h2 h3 => (hk1 r h2 h3).trans (hg1.block r h0 (fun e => by injection e with e; exact h1 e))
      have hB1 : Below 0 V1 S := by
        rw [← hS]
        exact (((Below.refl 0 V1).setCell (p := ⟨w.heap.size + 1, 0, none⟩) (Nat.zero_le _) _).setCell (p := ⟨w.heap.size + 1, 1, none⟩) (Nat.zero_le _) _).setCell (p := ⟨w.heap.size + 1 + 1, 0, none⟩) (Nat.zero_le _) _
      have hBV : Below 0 V S := (below_zero hg1).trans hB1
      have k1 : Blk S (w.heap.size + 1) 44 #[.slice A1 body.length c1, .int .i64 er] := by
        rw [← hS]
        exact ((Blk.set_ hbR 0 _).set_ 1 _).far (by omega) _
      have k2 : Blk S (w.heap.size + 1 + 1) 4 #[.bool true] := by
        rw [← hS]
        exact ((Blk.far hbB (by omega) _).far (by omega) _).set_ 0 _
      have k3 : Blk S g 85 #[.slice A3 n3 c3, .int .i64 (t3 : Int), .bool false] := (hk1 g (by omega) (by omega)).trans hb3
      rw [hS]
      clear hS
      have hvs := hBV.size
      have a5 := HF.out.2.2.2.2.2.1
      have how := HF.out.2.2.2.2.2.2
      refine ⟨⟨hvs, fun r hr => by rcases hr with h | h; exact hk r (by omega) (by omega) (by omega) (by omega); exact h.elim⟩, ?_⟩
      unfold NextX
      rw [HBE.out.1, HBE.out.2]
      refine ⟨rfl, rfl, A1, c1, k1, k2, ?_, ⟨(a5.mono (Nat.zero_le _)).trans hBV, fun k hk' hn => (hk k (by have := a5.size; omega) (fun e => hn (by rw [e]; exact HL2.out.1)) (by omega) (by omega)).trans (a5.block k hk'), fun _ h => .inl h⟩, own_same how (fun k e => by have := how.lt k e; exact hk k this.2 (by omega) (by omega) (by omega))⟩
      show Stm S H g (if er = 71 then [] else l.drop nx) (er == 71)
      rw [if_neg h71, z1]
      have hl3 : l.drop nx = K3.drop t3 := by rw [hd3, HL2.out.2.2, List.drop_drop]
      have hl4 := kept_len hK3 hl3
      exact ⟨HL2.out.1, fun k hk' => Nat.lt_of_lt_of_le (HL2.out.2.1 k hk') hvs, A3, n3, c3, t3, K3, k3, hK3.keep (fun k hk' _ => hk1 k (by have := hH k hk'; omega) (by have := hH k hk'; omega)), hl3, ht3, by rw [hl4]; exact hr3, fun h => by cases h⟩
  case done =>
    rintro V ⟨hN, a1, a2, a3, a4, a5⟩ hd
    have e0 := a3.cell 0
    have e1 := a3.cell 1
    have e2 := a4.cell 0
    have g0 := a3.frozen 0
    have g1 := a3.frozen 1
    have g2 := a4.frozen 0
    simp only [List.getElem?_toArray, List.getElem?_cons_zero, List.getElem?_cons_succ] at e0 e1 e2
    have HF := Lib.hid (And.intro a1 (And.intro a3 (And.intro a4 (And.intro a5 (And.intro hN hd)))))
    clear a1 a2 a3 a4 a5 hN hd
    go_wp2_with fail
    obtain ⟨S, hS⟩ : ∃ S, (((V.setCell ⟨w.heap.size + 1, 0, none⟩ (.slice none 0 0)).setCell ⟨w.heap.size + 1, 1, none⟩ (.int .i64 0)).setCell ⟨w.heap.size + 1 + 1, 0, none⟩ (.bool false)) = S := ⟨_, rfl⟩
    have hk : ∀ r, r ≠ w.heap.size + 1 → r ≠ w.heap.size + 1 + 1 → S.heap[r]? = V.heap[r]? := fun r h2 h3 => by
      rw [← hS]
      exact (Below.heap_setCell _ ⟨w.heap.size + 1 + 1, 0, none⟩ _ r h3).trans ((Below.heap_setCell _ ⟨w.heap.size + 1, 1, none⟩ _ r h2).trans (Below.heap_setCell _ ⟨w.heap.size + 1, 0, none⟩ _ r h2))
    have k1 : Blk S (w.heap.size + 1) 44 #[.slice none 0 0, .int .i64 0] := by
      rw [← hS]
      exact ((Blk.set_ HF.out.2.1 0 _).set_ 1 _).far (by omega) _
    have k2 : Blk S (w.heap.size + 1 + 1) 4 #[.bool false] := by
      rw [← hS]
      exact ((Blk.far HF.out.2.2.1 (by omega) _).far (by omega) _).set_ 0 _
    have k5 : Below w.heap.size w S := by
      rw [← hS]
      exact ((HF.out.2.2.2.1.setCell (p := ⟨w.heap.size + 1, 0, none⟩) (by simp) _).setCell (p := ⟨w.heap.size + 1, 1, none⟩) (by simp) _).setCell (p := ⟨w.heap.size + 1 + 1, 0, none⟩) (by show w.heap.size ≤ w.heap.size + 1 + 1; omega) _
    have k3 : Stm S H g l d := stm_keep HF.out.1 (fun k hk' => hk k (by have := hH k hk'; omega) (by have := hH k hk'; omega))
    have hdS : S.heap[W0.heap.size]? = some (.deferred (some [])) := (hk _ (by omega) (by omega)).trans HF.out.2.2.2.2.2
    rw [hS]
    have hgp := grownBy_putObj' S W0.heap.size (.deferred none)
    have x1 := (Rng.abides_blk (.inl (by omega)) S _ _ k1 hgp (Nat.le_refl _) (by omega)).cell 0
    have x2 := (Rng.abides_blk (.inl (by omega)) S _ _ k1 hgp (Nat.le_refl _) (by omega)).cell 1
    have x3 := (Rng.abides_blk (.inl (by omega)) S _ _ k2 hgp (Nat.le_refl _) (by omega)).cell 0
    have k4 := stm_abides (fun k hk' => by have := hH k hk'; omega) S _ _ k3 hgp (Nat.le_refl _) (by omega)
    have k6 := Rng.abides_below (Nat.le_refl _) (by omega) S _ _ k5 hgp (Nat.le_refl _) (by omega)
    simp only [List.getElem?_toArray, List.getElem?_cons_zero, List.getElem?_cons_succ] at x1 x2 x3
    refine ⟨by simp, .inl ⟨_, _, rfl, run_takeDeferred hdS, ?_⟩⟩
    refine ⟨.tuple #[.agg #[.slice none 0 0, .int .i64 0], .bool false], ?_, .inl ⟨HF.out.2.2.2.2.1, ⟨none, 0, 0, rfl⟩, H, Mv.of_below k6 H, k4⟩⟩
    simp [results, Try.results29, go_sem, x1, x2, x3]
  case stop =>
    rintro cd k V hk ⟨rfl, rfl, A1, c1, a2, a3, a4, a5, a6⟩ hd
    have HF := Lib.hid (And.intro a2 (And.intro a3 (And.intro a4 (And.intro a5 (And.intro a6 (And.intro hd hk))))))
    clear a2 a3 a4 a5 a6 hd hk
    refine wpIn_wide.2 ?_
    go_wp2_with fail
    have hgp := grownBy_putObj' V W0.heap.size (.deferred none)
    have k1 := Rng.abides_blk (.inl (by omega)) V _ _ HF.out.1 hgp (Nat.le_refl _) (by omega)
    have k2 := Rng.abides_blk (.inl (by omega)) V _ _ HF.out.2.1 hgp (Nat.le_refl _) (by omega)
    have x1 := k1.cell 0
    have x2 := k1.cell 1
    have x3 := k2.cell 0
    have k4 := stm_abides (fun k hk' => by have := hH k hk'; omega) V _ _ HF.out.2.2.1 hgp (Nat.le_refl _) (by omega)
    have k5 := mv_abides (by omega) V _ _ HF.out.2.2.2.1 hgp (Nat.le_refl _) (by omega)
    have k6 := Rng.abides_own (Nat.le_refl _) V _ _ HF.out.2.2.2.2.1 hgp (Nat.le_refl _) (by omega)
    have hdS := HF.out.2.2.2.2.2.1
    have hkN := HF.out.2.2.2.2.2.2
    simp only [List.getElem?_toArray, List.getElem?_cons_zero, List.getElem?_cons_succ] at x1 x2 x3
    refine ⟨by simp, .inl ⟨_, _, rfl, run_takeDeferred hdS, ?_⟩⟩
    refine ⟨.tuple #[.agg #[.slice A1 (Fr.found l 0).1.length c1, .int .i64 (Fr.found l 0).2], .bool true], ?_, .inr ⟨by omega, rfl, A1, c1, rfl, H, k5, k4, own_off k6 (fun k hk' => by have := hH k hk'; omega), own_lower k6 (by omega)⟩⟩
    simp [results, Try.results29, go_sem, x1, x2, x3]
theorem fNext_none (g : Nat) (H l : List Nat) (d : Bool) (w : World) (hs : Stm w H g l d) (hl : l.length ≤ 1000000) (h : d = true ∨ (Fr.tkA l 0).2.2 = 70) : Calls Try.prog 29 #[.pointer (some ⟨g, 0, none⟩)] w fun e w' => ∃ A c e0, e = .returned (.tuple #[.agg #[.slice A 0 c, .int .i64 e0], .bool false]) ∧ StmP w H g l d w' := by
  have h0 : (Fr.from_ l 0).1.length = 0 := by
    rcases h with rfl | h
    · rw [stm_dead hs, Fr.from_nil]; rfl
    · rw [Fr.from_more h]; rfl
  refine (fNext_main g H l d w hs hl).mono ?_
  rintro e w' (⟨_, ⟨A, c, e0, he⟩, h2⟩ | ⟨h1, _⟩)
  · exact ⟨A, c, e0, he, h2⟩
  · omega
theorem fNext_one (g m nx : Nat) (H l b l' : List Nat) (d' : Bool) (er : Int) (w : World) (hs : Stm w H g l false) (hl : l.length ≤ 1000000) (h : Fr.tkA l 0 = (b, nx, er)) (hm : b.length = m) (h70 : er ≠ 70) (hl' : l' = if er = 71 then [] else l.drop nx) (hd' : d' = (er == 71)) : Calls Try.prog 29 #[.pointer (some ⟨g, 0, none⟩)] w fun e w' => ∃ A c, e = .returned (.tuple #[.agg #[.slice A m c, .int .i64 er], .bool true]) ∧ StmB w H g l' d' A m c b w' := by
  have hf : Fr.found l 0 = (b, er) := by show ((Fr.tkA l 0).1, (Fr.tkA l 0).2.2) = _; rw [h]
  have hp : Fr.place l 1 = nx := by show (Fr.tkA l 0).2.1 = nx; rw [h]
  have h0 := (Fr.seen_step (Fr.seen_start l) (by show (0 : Int) ≠ 71; decide) (by rw [hf]; exact h70)).2
  refine (fNext_main g H l false w hs hl).mono ?_
  rintro e w' (⟨h1, _⟩ | ⟨_, _, A, c, he, h2⟩)
  · omega
  · rw [hf, hp] at h2
    rw [hf] at he
    dsimp only at he h2
    rw [hm] at he h2
    rw [← hl', ← hd'] at h2
    exact ⟨A, c, he, h2⟩
end Go.Proofs.Ytnokbnobnhkmgaa
