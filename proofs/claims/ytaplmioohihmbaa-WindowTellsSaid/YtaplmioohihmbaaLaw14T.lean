/- Layer 14: WindowTells. -/
import Derived.Test.YtaplmioohihmbaaLaw14S
namespace Go.Proofs.Ytaplmioohihmbaa
open Go.ChangeShapes Go.WideShapes Go.ChangeAt Go.RowKit

/-- Each of a time's windows might be one. -/
theorem is_of {W : Wd} {t : Int} {x : Int × Int} (h : x ∈ Wn.ofL W t) : Wn.is W x = true := by
  cases hr : (Wn.right W && Wn.isT t)
  · rw [Wn.ofL_none hr] at h
    cases h
  · rw [Bool.and_eq_true] at hr
    have ht := (Wn.isT_iff t).1 hr.2
    obtain ⟨a, b⟩ := x
    by_cases h3 : W.k = 3
    · rw [Wn.ofL_gap hr.1 hr.2 h3] at h
      have e := List.mem_singleton.1 h
      have e1 : a = t := congrArg Prod.fst e
      have e2 : b = t + W.g := congrArg Prod.snd e
      rw [Wn.is_gap h3, hr.1, e1, hr.2, e2]
      simp
      omega
    · obtain ⟨n, st, hs⟩ := Wn.right_std hr.1 h3
      rw [Wn.ofL_std hr.1 hr.2 h3 hs, Wn.mem_wins] at h
      obtain ⟨j, hj, h1, h2⟩ := h
      simp only at h1 h2
      obtain ⟨e1, e2, e3⟩ := Wn.first_eq hs t
      have hse := hs.s_eq
      have s1 := hs.st_lo
      rw [hs.st_eq] at h1
      have hj0 : (0 : Int) ≤ (j : Int) * st := Int.mul_nonneg (by omega) (by omega)
      have hj1 : ((j + 1 : Nat) : Int) * st ≤ n * st := Int.mul_le_mul_of_nonneg_right (by omega) (by omega)
      rw [Int.natCast_add, Int.add_mul] at hj1
      rw [Wn.is_std hs h3 hr.1]
      refine ⟨by omega, ?_, by omega, by omega⟩
      have hx : Wn.first W t = (t / st - n + 1) * st := by rw [e1, Int.add_mul, Int.sub_mul, Int.one_mul, Int.mul_comm st]
      rw [h1, hx, ← Int.add_mul]
      exact Int.mul_tmod_left _ _
/-- A row in which the pairs from the i-th on are those of the list. -/
def Rest (w : World) (B : Nat) (T : TypeId) (A : Option Addr) (l : List (Int × Int)) (i : Nat) : Prop := 0 < l.length → ∃ g cur, A = some ⟨g, 0, none⟩ ∧ B ≤ g ∧ Blk w g T cur ∧ ∀ q x, i ≤ q → l[q]? = some x → cur[q * 2]? = some (.int .i64 x.1) ∧ cur[q * 2 + 1]? = some (.int .i64 x.2)
theorem rest_of {w : World} {B : Nat} {T : TypeId} {A : Option Addr} {c : Nat} {l : List (Int × Int)} (h : w.ownsRow B T 2 (.slice A l.length c) l.length (spL l)) : Rest w B T A l 0 := fun h0 => by
  rcases h.2 with ⟨hv, hx⟩ | ⟨g, cap, cur, hv, hb, hh, hcs⟩
  · omega
  · injection hv with h1 h2 h3
    subst h1
    refine ⟨g, cur, rfl, hb, hh, fun q x _ hx => ?_⟩
    have hs := spL_at l q x hx
    have hq := (List.getElem?_eq_some_iff.1 hx).1
    rw [← hcs.2.2.2, List.getElem?_take, if_pos (by omega), List.getElem?_take, if_pos (by omega)] at hs
    exact ⟨by simpa using hs.1, by simpa using hs.2⟩
theorem rest_set {w W : World} {B : Nat} {T : TypeId} {g : Nat} {l : List (Int × Int)} {i : Nat} {cur : Array Value} {u v : Value} (hb : Blk w g T cur) (hg : B ≤ g) (hr : ∀ q x, i ≤ q → l[q]? = some x → cur[q * 2]? = some (.int .i64 x.1) ∧ cur[q * 2 + 1]? = some (.int .i64 x.2)) (hW : W = (w.setCell ⟨g, i * 2, none⟩ u).setCell ⟨g, i * 2 + 1, none⟩ v) : Rest W B T (some ⟨g, 0, none⟩) l (i + 1) := fun _ => by
  subst hW
  refine ⟨g, _, rfl, hg, (hb.set_ (i * 2) u).set_ (i * 2 + 1) v, fun q x hq hx => ?_⟩
  have := hr q x (by omega) hx
  rw [Array.getElem?_setIfInBounds_ne (by omega), Array.getElem?_setIfInBounds_ne (by omega), Array.getElem?_setIfInBounds_ne (by omega), Array.getElem?_setIfInBounds_ne (by omega)]
  exact this
set_option maxRecDepth 100000 in
set_option maxHeartbeats 4000000 in
theorem windowTells_any (k s l g t a b : Int) (w : World) :
    Calls Try.prog 3 #[.agg #[.int .u8 k, .int .i64 s, .int .i64 l, .int .i64 g], .int .i64 t, .agg #[.int .i64 a, .int .i64 b]] w (TrueP w) := by
  obtain ⟨w0, bx, sx, hw0, hbx, hsx, hbe, hlt, hc⟩ := win_boxes w 23 25 k s l g a b
  obtain ⟨c0, c1, c2, c3, c4, c5⟩ := hc w0 (Below.refl _ _)
  obtain ⟨ls, hls⟩ : ∃ ls, Wn.ofL ⟨k, s, l, g⟩ t = ls := ⟨_, rfl⟩
  have hlen := ofL_len ⟨k, s, l, g⟩ t
  rw [hls] at hlen
  have H := Lib.hid (And.intro hbe (And.intro hc (And.intro hls hlen)))
  have hlen' : ((ls.length : Nat) : Int) ≤ 16 := by omega
  clear hbe hc hls hlen
  go_enter Try.func3, Try.ntmps3
  go_wp2_with fail
  refine (ref_any k s l g _).mono ?_
  rintro e w1 ⟨rfl, b1⟩
  obtain ⟨w2, hw2⟩ : ∃ w2, w1.alloc (.cells #[.int .u8 k, .int .i64 s, .int .i64 l, .int .i64 g] 26) = w2 := ⟨_, rfl⟩
  obtain ⟨rb, hrb⟩ : ∃ rb, w1.heap.size = rb := ⟨_, rfl⟩
  have kr : Blk w2 rb 26 #[.int .u8 k, .int .i64 s, .int .i64 l, .int .i64 g] := by rw [← hw2, ← hrb]; exact Blk.new _ _ _
  have D2 : Below w0.heap.size w0 w2 := by rw [← hw2]; exact b1.alloc b1.size _
  have r0 := kr.cell 0
  have r1 := kr.cell 1
  have r2 := kr.cell 2
  have r3 := kr.cell 3
  clear c0 c1 c2 c3 c4 c5 hw0 b1
  go_wp2_with fail
  refine (refOf_any k s l g t _).mono ?_
  rintro e w3 ⟨A3, n3, rfl, o3, b3⟩
  have HC : Hid (∀ X, Below w3.heap.size w3 X → X.cell? ⟨bx, 0, none⟩ = some (.int .u8 k) ∧ X.cell? ⟨bx, 1, none⟩ = some (.int .i64 s) ∧ X.cell? ⟨bx, 2, none⟩ = some (.int .i64 l) ∧ X.cell? ⟨bx, 3, none⟩ = some (.int .i64 g) ∧ X.cell? ⟨sx, 0, none⟩ = some (.int .i64 a) ∧ X.cell? ⟨sx, 1, none⟩ = some (.int .i64 b) ∧ X.cell? ⟨rb, 0, none⟩ = some (.int .u8 k) ∧ X.cell? ⟨rb, 1, none⟩ = some (.int .i64 s) ∧ X.cell? ⟨rb, 2, none⟩ = some (.int .i64 l) ∧ X.cell? ⟨rb, 3, none⟩ = some (.int .i64 g)) := Lib.hid fun X hX => by
    have bX := b3.trans (hX.mono b3.size)
    obtain ⟨k0, k1, k2, k3, k4, k5⟩ := H.out.2.1 X (D2.trans (bX.mono D2.size))
    have q := kr.below bX kr.lt
    exact ⟨k0, k1, k2, k3, k4, k5, q.cell 0, q.cell 1, q.cell 2, q.cell 3⟩
  rw [H.out.2.2.1] at o3 ⊢
  have HD3 := Lib.hid (And.intro ((H.out.1.trans (D2.mono H.out.1.size)).trans (b3.mono (Nat.le_trans H.out.1.size D2.size))) (Cells.of_own o3))
  clear r0 r1 r2 r3 hw2 hrb kr D2 b3 o3
  go_wp2_with fail
  go_loopw [9] (fun i wr => (∃ j : Nat, j ≤ 2 ∧ i = .int .i64 (j : Int)) ∧ Below w3.heap.size w3 wr) (fun i _ => 2 - (intOf i).toNat)
  case atStart => exact ⟨⟨0, by omega, rfl⟩, Below.refl _ _⟩
  case round =>
    obtain ⟨⟨j, hj, rfl⟩, hbel⟩ := hrel
    rename World => wp
    by_cases hlj : j < 2
    · have i2 : (j : Int) < 2 := by omega
      have i1 : (0 : Int) ≤ (j : Int) := by omega
      obtain ⟨k0, k1, k2, k3, k4, k5, k6, k7, k8, k9⟩ := HC.out wp hbel
      have HBel := Lib.hid hbel
      clear hbel
      go_wp2_with fail
      refine (of_any k s l g t _).mono ?_
      rintro e wx ⟨A4, n4, rfl, o4, b4⟩
      rw [H.out.2.2.1] at o4 ⊢
      have HR := Lib.hid (And.intro (rest_of o4) b4)
      clear o4 b4 k0 k1 k2 k3 k4 k5 k6 k7 k8 k9
      go_wp2_with fail
      go_loopw [11] (fun i wy => ∃ q : Nat, q ≤ ls.length ∧ i = .int .i64 (q : Int) ∧ Rest wy wp.heap.size 25 A4 ls q ∧ Below wp.heap.size wp wy) (fun i _ => ls.length - (intOf i).toNat)
      case atStart => exact ⟨0, by omega, rfl, HR.out.1, HR.out.2⟩
      case round =>
        obtain ⟨q, hq, rfl, hrs, hby⟩ := hrel
        rename World => wy
        by_cases hlq : q < ls.length
        · have i3 : (0 : Int) ≤ (q : Int) := by omega
          have i4 : (q : Int) < (ls.length : Int) := by omega
          obtain ⟨x, hx⟩ : ∃ x, ls[q]? = some x := ⟨_, List.getElem?_eq_getElem hlq⟩
          obtain ⟨gr, cur, rfl, hgr, hbk, hcur⟩ := hrs (by omega)
          obtain ⟨z0, z1⟩ := hcur q x (Nat.le_refl _) hx
          have hbw := below_next HBel.out hby
          obtain ⟨bq, off, rfl, -, -, y0, y1⟩ := sp_cells (HD3.out.2.below hbw) hx
          have hisx : Wn.is ⟨k, s, l, g⟩ (x.1, x.2) = true := is_of (t := t) (by rw [H.out.2.2.1]; exact List.mem_of_getElem? hx)
          have HIs : Hid (∀ X, Calls Try.prog 12 #[.agg #[.int .u8 k, .int .i64 s, .int .i64 l, .int .i64 g], .agg #[.int .i64 x.1, .int .i64 x.2]] X (ValP X (.bool true))) := Lib.hid fun X => by
            have := is_any k s l g x.1 x.2 X
            rwa [hisx] at this
          have HS : Hid (∀ X, Below wy.heap.size wy X → X.cell? ⟨bx, 0, none⟩ = some (.int .u8 k) ∧ X.cell? ⟨bx, 1, none⟩ = some (.int .i64 s) ∧ X.cell? ⟨bx, 2, none⟩ = some (.int .i64 l) ∧ X.cell? ⟨bx, 3, none⟩ = some (.int .i64 g) ∧ X.cell? ⟨gr, q * 2, none⟩ = some (.int .i64 x.1) ∧ X.cell? ⟨gr, q * 2 + 1, none⟩ = some (.int .i64 x.2) ∧ X.cell? ⟨bq, off + q * 2, none⟩ = some (.int .i64 x.1) ∧ X.cell? ⟨bq, off + q * 2 + 1, none⟩ = some (.int .i64 x.2) ∧ X.frozen? ⟨gr, q * 2, none⟩ = false ∧ X.frozen? ⟨gr, q * 2 + 1, none⟩ = false) := Lib.hid fun X hX => by
            obtain ⟨k0, k1, k2, k3, -⟩ := HC.out X (below_next hbw hX)
            have kk := hbk.below hX hbk.lt
            obtain ⟨bq', off', e, -, -, m0, m1⟩ := sp_cells ((HD3.out.2.below hbw).below hX) hx
            injection e with e
            injection e with e1 e2
            subst e1 e2
            exact ⟨k0, k1, k2, k3, (kk.cell _).trans z0, (kk.cell _).trans z1, m0, m1, kk.frozen _, kk.frozen _⟩
          have D : Hid (Below wy.heap.size wy wy.drew) := Lib.hid (Below.refl _ _).drew
          have gg := rspan_guard
          have hqq := fun a b c d W => rspan_same a b c d W
          have HQ := Lib.hid (And.intro hgr (And.intro hbk (And.intro hcur hby)))
          clear hrs hbk hcur hby hbw hisx z0 z1 y0 y1 hx hgr
          go_upto_region 12 with fail
          go_region_held3 (fun X => X.cell? ⟨bx, 0, none⟩ = some (.int .u8 k) ∧ X.cell? ⟨bx, 1, none⟩ = some (.int .i64 s) ∧ X.cell? ⟨bx, 2, none⟩ = some (.int .i64 l) ∧ X.cell? ⟨bx, 3, none⟩ = some (.int .i64 g) ∧ X.cell? ⟨gr, q * 2, none⟩ = some (.int .i64 x.1) ∧ X.cell? ⟨gr, q * 2 + 1, none⟩ = some (.int .i64 x.2) ∧ X.cell? ⟨bq, off + q * 2, none⟩ = some (.int .i64 x.1) ∧ X.cell? ⟨bq, off + q * 2 + 1, none⟩ = some (.int .i64 x.2) ∧ X.frozen? ⟨gr, q * 2, none⟩ = false ∧ X.frozen? ⟨gr, q * 2 + 1, none⟩ = false) (exact HS.out _ D.out)
            (first
              | (go_at_call 11; (with_reducible refine (span_any _ _ _).mono ?_); rintro e X ⟨rfl, bb⟩; replace D : Hid (Below wy.heap.size wy X) := Lib.hid (below_next D.out bb); clear bb)
              | (go_at_call 12; (with_reducible refine (HIs.out _).mono ?_); rintro e X ⟨rfl, bb⟩; replace D : Hid (Below wy.heap.size wy X) := Lib.hid (below_next D.out bb); clear bb))
          all_goals
            obtain ⟨-, -, -, -, y0, y1, -, -, y2, y3⟩ := HS.out _ D.out
            have hw2 := Lib.hid (HQ.out.2.1.below D.out HQ.out.2.1.lt)
            go_wp2_with fail
            refine ⟨⟨q + 1, by omega, by go_num, rest_set hw2.out HQ.out.1 HQ.out.2.2.1 rfl, ?_⟩, by simp [intOf]; omega⟩
            exact ((HQ.out.2.2.2.trans (D.out.mono HQ.out.2.2.2.size)).setCell (p := ⟨gr, q * 2, none⟩) HQ.out.1 _).setCell (p := ⟨gr, q * 2 + 1, none⟩) HQ.out.1 _
        · obtain rfl : q = ls.length := by omega
          have HQ := Lib.hid hby
          clear hrs hby
          go_wp2_with fail
          exact ⟨⟨⟨j + 1, by omega, by go_num⟩, below_next HBel.out HQ.out⟩, by simp [intOf]; omega⟩
    · obtain rfl : j = 2 := by omega
      have HBel := Lib.hid hbel
      clear hbel
      go_wp2_with fail
      rename World => wq
      have D : Hid (Below w3.heap.size w3 wq.drew) := Lib.hid HBel.out.drew
      have HR1 : Hid (∀ X, Calls Try.prog 13 #[.agg #[.int .u8 k, .int .i64 s, .int .i64 l, .int .i64 g]] X (ValP X (.bool (Wn.right ⟨k, s, l, g⟩)))) := Lib.hid fun X => right_any k s l g X
      have HR2 : Hid (∀ X, Calls Try.prog 14 #[.agg #[.int .u8 k, .int .i64 s, .int .i64 l, .int .i64 g]] X (ValP X (.bool (Wn.right ⟨k, s, l, g⟩)))) := Lib.hid fun X => refRight_any k s l g X
      have HI1 : Hid (∀ X, Calls Try.prog 12 #[.agg #[.int .u8 k, .int .i64 s, .int .i64 l, .int .i64 g], .agg #[.int .i64 a, .int .i64 b]] X (ValP X (.bool (Wn.is ⟨k, s, l, g⟩ (a, b))))) := Lib.hid fun X => is_any k s l g a b X
      have HI2 : Hid (∀ X, Calls Try.prog 15 #[.agg #[.int .u8 k, .int .i64 s, .int .i64 l, .int .i64 g], .agg #[.int .i64 a, .int .i64 b]] X (ValP X (.bool (Wn.is ⟨k, s, l, g⟩ (a, b))))) := Lib.hid fun X => refIs_any k s l g a b X
      generalize Wn.right ⟨k, s, l, g⟩ = p at HR1 HR2
      generalize Wn.is ⟨k, s, l, g⟩ (a, b) = r at HI1 HI2
      go_region_held3 (fun X => X.cell? ⟨bx, 0, none⟩ = some (.int .u8 k) ∧ X.cell? ⟨bx, 1, none⟩ = some (.int .i64 s) ∧ X.cell? ⟨bx, 2, none⟩ = some (.int .i64 l) ∧ X.cell? ⟨bx, 3, none⟩ = some (.int .i64 g) ∧ X.cell? ⟨sx, 0, none⟩ = some (.int .i64 a) ∧ X.cell? ⟨sx, 1, none⟩ = some (.int .i64 b) ∧ X.cell? ⟨rb, 0, none⟩ = some (.int .u8 k) ∧ X.cell? ⟨rb, 1, none⟩ = some (.int .i64 s) ∧ X.cell? ⟨rb, 2, none⟩ = some (.int .i64 l) ∧ X.cell? ⟨rb, 3, none⟩ = some (.int .i64 g)) (exact HC.out _ D.out)
        (first
          | (go_at_call 13; (with_reducible refine (HR1.out _).mono ?_); rintro e X ⟨rfl, bb⟩; replace D : Hid (Below w3.heap.size w3 X) := Lib.hid (below_next D.out bb); clear bb)
          | (go_at_call 14; (with_reducible refine (HR2.out _).mono ?_); rintro e X ⟨rfl, bb⟩; replace D : Hid (Below w3.heap.size w3 X) := Lib.hid (below_next D.out bb); clear bb)
          | (go_at_call 12; (with_reducible refine (HI1.out _).mono ?_); rintro e X ⟨rfl, bb⟩; replace D : Hid (Below w3.heap.size w3 X) := Lib.hid (below_next D.out bb); clear bb)
          | (go_at_call 15; (with_reducible refine (HI2.out _).mono ?_); rintro e X ⟨rfl, bb⟩; replace D : Hid (Below w3.heap.size w3 X) := Lib.hid (below_next D.out bb); clear bb)
          | (go_at_call 11; (with_reducible refine (span_any _ _ _).mono ?_); rintro e X ⟨rfl, bb⟩; replace D : Hid (Below w3.heap.size w3 X) := Lib.hid (below_next D.out bb); clear bb)
          | (go_at_call 16; (with_reducible refine (works_any _).mono ?_); rintro e X ⟨rfl, bb⟩; replace D : Hid (Below w3.heap.size w3 X) := Lib.hid (below_next D.out bb); clear bb))
      all_goals
        go_wp2_with fail
        go_ret
        exact ⟨rfl, HD3.out.1.trans (D.out.mono HD3.out.1.size)⟩
end Go.Proofs.Ytaplmioohihmbaa
