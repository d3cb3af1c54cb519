/- Layer 10, the program: those panes that a filter has, by their rows. Made by tools/gen/bog.py. -/
import Derived.Test.YtponelbfddfliaaBoE
import Derived.Shelf.SlSortCmp.NoneTotal
import Derived.Deep.DeepCutAuto
namespace Go.Proofs.Ytponelbfddfliaa
open Go.Shelf
open Go.ChangeShapes Go.WideShapes Go.ChangeAt Go.RowKit

theorem Try.info33 : (Try.prog.info? 33).map (fun i => (i.zero, i.size, i.bytes)) = some (some (.agg #[.string ⟨#[]⟩, .int .i64 0, .int .i64 0]), 3, 32) := by kernel_rfl
theorem Try.info52 : (Try.prog.info? 52).map (fun i => (i.zero, i.size, i.bytes)) = some (some (.agg #[.string ⟨#[]⟩, .string ⟨#[]⟩, .int .i64 0, .int .i64 0]), 4, 48) := by kernel_rfl
theorem filter_yes {h : Pn → Bool} {l : List Pn} {j : Nat} (hj : j < l.length) {x : Pn} (hx : l.getD j default = x) (hh : h x = true) : (l.take (j + 1)).filter h = (l.take j).filter h ++ [x] := by
  rw [psnoc_at l j hj, hx, List.filter_append]
  simp [hh]
theorem filter_no {h : Pn → Bool} {l : List Pn} {j : Nat} (hj : j < l.length) {x : Pn} (hx : l.getD j default = x) (hh : h x = false) : (l.take (j + 1)).filter h = (l.take j).filter h := by
  rw [psnoc_at l j hj, hx, List.filter_append]
  simp [hh]
theorem pl4 (w : World) (t : TypeId) (U xk : ByteArray) (xs xe : Int) : ∀ j z, ([.string U, .string xk, .int .i64 xs, .int .i64 xe] : List Value)[j]? = some z → (w.alloc (.cells #[.string U, .string xk, .int .i64 xs, .int .i64 xe] t)).cell? ((⟨w.heap.size, 0, none⟩ : Addr).add j) = some z := by
  intro j z hz
  rw [add_at, Nat.zero_add, (Blk.new w t _).cell]
  simpa using hz
theorem plsnoc_at (l : List Pl) (j : Nat) (h : j < l.length) : l.take (j + 1) = l.take j ++ [l.getD j default] := by
  rw [List.take_succ_eq_append_getElem h, List.getD_eq_getElem?_getD, List.getElem?_eq_getElem h]; rfl
theorem pn3 (w : World) (t : TypeId) (xk : ByteArray) (xs xe : Int) : ∀ j z, ([.string xk, .int .i64 xs, .int .i64 xe] : List Value)[j]? = some z → (w.alloc (.cells #[.string xk, .int .i64 xs, .int .i64 xe] t)).cell? ((⟨w.heap.size, 0, none⟩ : Addr).add j) = some z := pcells3 w t ⟨xk, xs, xe⟩
theorem below_row {w w1 w2 : World} {row : Option Nat} (h : Below w.heap.size w w1) (hg : w1.grownBy w2 row) (hr : ∀ g, row = some g → w.heap.size ≤ g) : Below w.heap.size w w2 :=
  ⟨hg.os.trans h.os, hg.tape.trans h.tape, hg.output.trans h.output, Nat.le_trans h.size hg.size, fun k hk => (hg.block k (by have := h.size; omega) (fun e => by have := hr k e.symm; omega)).trans (h.block k hk)⟩
theorem keep_far {w w' : World} {row : Option Nat} (hg : w.grownBy w' row) {k : Nat} (hk : k < w.heap.size) (hne : some k ≠ row) (o : Nat) : w'.cell? ⟨k, o, none⟩ = w.cell? ⟨k, o, none⟩ := by
  have e := hg.block k hk hne
  simp only [World.cell?, e]
/-- The rows, sorted, also where there are none. -/
theorem sortPl_all (A : Option Addr) (n cap base : Nat) (L : List Pl) (w : World) (h : w.ownsRow base 52 4 (.slice A n cap) n (plcells L)) (hl : L.length = n) (hn : n ≤ 1000) :
    Calls Try.prog 24 #[.slice A n cap, .func (.func 25) #[] #[]] w fun e w' => e = .returned (.tuple #[]) ∧ ∃ L' : List Pl, L'.Perm L ∧ (L'.Pairwise fun a b => ¬ plcmp b a < 0) ∧ w'.ownsRow base 52 4 (.slice A n cap) n (plcells L') ∧ w.grownBy w' (Value.slice A n cap).ownBlock := by
  subst hl
  by_cases h0 : L.length = 0
  · obtain rfl := List.eq_nil_of_length_eq_zero h0
    have hc := AnyF.slices_SortFunc_none sortPl A cap (.func (.func 25) #[] #[]) w
    change Calls Try.prog 24 _ _ _ at hc
    refine hc.mono ?_
    rintro e w' ⟨rfl, rfl⟩
    exact ⟨rfl, [], List.Perm.refl _, List.Pairwise.nil, h, rfl, rfl, rfl, Nat.le_refl _, fun _ _ _ => rfl⟩
  · obtain ⟨g, rfl⟩ : ∃ g, A = some ⟨g, 0, none⟩ := by
      rcases h.2 with ⟨_, e⟩ | ⟨g, c', cur, e, _⟩
      · exact absurd e h0
      · injection e with e; exact ⟨g, e⟩
    exact (sortPl_any g cap base L w h hn).mono fun e w' ⟨h1, L', h2, h3, h4, h5⟩ => ⟨h1, L', h2, h3, h4, h5⟩
set_option maxRecDepth 100000 in
set_option maxHeartbeats 4000000 in
theorem sort_any (fk : Nat) (fK fT : ByteArray) (fl fm : Int) (n c B : Nat) (A : Option Addr) (l : List Pn) (w : World) (h : PansIn w B A n l) (hl : ∀ p ∈ l, panOk p) (hB : B ≤ w.heap.size) (hn : n ≤ 1000) :
    Calls Try.prog 14 #[.agg #[.int .u8 (fk : Int), .string fK, .string fT, .int .i64 fl, .int .i64 fm], .slice A n c] w (PansP 33 w ((Fl.mk fk fK fT fl fm).sort l)) := by
  obtain ⟨ip, hi, hz0, hz1, hz2⟩ := info_parts Try.info33
  have HI := Lib.hid (And.intro hi (And.intro hz0 (And.intro hz1 hz2)))
  clear hi hz0 hz1 hz2
  obtain ⟨iq, hi, hz0, hz1, hz2⟩ := info_parts Try.info52
  have HJ := Lib.hid (And.intro hi (And.intro hz0 (And.intro hz1 hz2)))
  obtain ⟨w0, hw0⟩ : ∃ w0, w.alloc (.cells #[.int .u8 (fk : Int), .string fK, .string fT, .int .i64 fl, .int .i64 fm] 23) = w0 := ⟨_, rfl⟩
  have hbk := Blk.new w 23 #[.int .u8 (fk : Int), .string fK, .string fT, .int .i64 fl, .int .i64 fm]
  have hbe : Below w.heap.size w (w.alloc (.cells #[.int .u8 (fk : Int), .string fK, .string fT, .int .i64 fl, .int .i64 fm] 23)) := (Below.refl _ _).alloc (Nat.le_refl _) _
  have hz : (w.alloc (.cells #[.int .u8 (fk : Int), .string fK, .string fT, .int .i64 fl, .int .i64 fm] 23)).heap.size = w.heap.size + 1 := by simp
  rw [hw0] at hbk hbe hz
  have HF : Hid (∀ W, Below w0.heap.size w0 W → (W.cell? ⟨w.heap.size, 0, none⟩ = some (.int .u8 (fk : Int)) ∧ W.cell? ⟨w.heap.size, 1, none⟩ = some (.string fK) ∧ W.cell? ⟨w.heap.size, 2, none⟩ = some (.string fT) ∧ W.cell? ⟨w.heap.size, 3, none⟩ = some (.int .i64 fl) ∧ W.cell? ⟨w.heap.size, 4, none⟩ = some (.int .i64 fm))) := Lib.hid fun W hW => by
    have hb := hbk.below hW (by omega)
    exact ⟨hb.cell 0, hb.cell 1, hb.cell 2, hb.cell 3, hb.cell 4⟩
  have HBE := Lib.hid hbe
  have HP := Lib.hid (h.below hbe hB)
  have HZ := Lib.hid (show w.heap.size < w0.heap.size by omega)
  have HBB := Lib.hid (Nat.lt_of_le_of_lt hB (by omega : w.heap.size < w0.heap.size))
  have HOK := Lib.hid (And.intro hl h.1)
  clear hi hz0 hz1 hz2 h hB hbk hbe hz hl
  go_enter Try.func14, Try.ntmps14
  go_wp2_with fail
  clear hw0
  go_loopw [5, 7, 13] (fun v _ i wr => ∃ (j m : Nat) (L : List Pl), j ≤ n ∧ i = .int .i64 (j : Int) ∧ m ≤ j ∧ L.length = m ∧ L.map Pl.p = (l.take j).filter (Fl.mk fk fK fT fl fm).has ∧ (∀ x ∈ L, nums x.r = row (Fl.mk fk fK fT fl fm).sec x.p) ∧ wr.ownsRow w0.heap.size 52 4 v m (plcells L) ∧ Below w0.heap.size w0 wr) (fun _ _ i _ => n - (intOf i).toNat)
  case atStart => exact ⟨0, 0, [], by omega, rfl, Nat.le_refl _, rfl, rfl, by simp, own_nil _ _ _ _, Below.refl _ _⟩
  case round =>
    obtain ⟨j, m0, L, hj, rfl, hmj, hm0, hLp, hLr, hown, hbel⟩ := hrel
    have HO := Lib.hid (And.intro hm0 (And.intro hLp (And.intro hLr (And.intro hown hbel))))
    clear hown hm0 hLp hLr
    by_cases hlt : j < n
    · obtain ⟨x, hx⟩ : ∃ x, l.getD j default = x := ⟨_, rfl⟩
      obtain ⟨b, off, rfl, hb, hc⟩ := HP.out.pan hlt hx
      obtain ⟨bb, hbb⟩ : ∃ b, (Fl.mk fk fK fT fl fm).has x = b := ⟨_, rfl⟩
      have HX := Lib.hid (And.intro hx hbb)
      have HHAS := Lib.hid (fun W => has_any (Fl.mk fk fK fT fl fm) x W)
      rw [hbb] at HHAS
      have HXO : Hid (panOk x) := Lib.hid (HOK.out.1 x (by rw [← hx, List.getD_eq_getElem?_getD, List.getElem?_eq_getElem (by rw [HOK.out.2]; exact hlt)]; exact List.getElem_mem _))
      have HROW := Lib.hid (fun W => row_any fk fK fT fl fm x.k x.s x.e W HXO.out)
      obtain ⟨xk, xs, xe⟩ := x
      dsimp only at hc HROW
      have hz : b < w0.heap.size := by have := HBB.out; omega
      obtain ⟨c0, c1, c2⟩ := hc
      replace c0 := (hbel.cell (p := ⟨b, _, none⟩) hz).trans c0
      replace c1 := (hbel.cell (p := ⟨b, _, none⟩) hz).trans c1
      replace c2 := (hbel.cell (p := ⟨b, _, none⟩) hz).trans c2
      obtain ⟨Wp, hWp⟩ : ∃ W, wr.alloc (.cells #[.string xk, .int .i64 xs, .int .i64 xe] 33) = W := ⟨_, rfl⟩
      have bp := Blk.new wr 33 #[.string xk, .int .i64 xs, .int .i64 xe]
      have be : Below wr.heap.size wr (wr.alloc (.cells #[.string xk, .int .i64 xs, .int .i64 xe] 33)) := (Below.refl _ _).alloc (Nat.le_refl _) _
      rw [hWp] at bp be
      have HC : Hid (∀ W, Below Wp.heap.size Wp W → (fun W => (W.cell? ⟨w.heap.size, 0, none⟩ = some (.int .u8 (fk : Int)) ∧ W.cell? ⟨w.heap.size, 1, none⟩ = some (.string fK) ∧ W.cell? ⟨w.heap.size, 2, none⟩ = some (.string fT) ∧ W.cell? ⟨w.heap.size, 3, none⟩ = some (.int .i64 fl) ∧ W.cell? ⟨w.heap.size, 4, none⟩ = some (.int .i64 fm)) ∧ W.cell? ⟨wr.heap.size, 0, none⟩ = some (.string xk) ∧ W.cell? ⟨wr.heap.size, 1, none⟩ = some (.int .i64 xs) ∧ W.cell? ⟨wr.heap.size, 2, none⟩ = some (.int .i64 xe)) W) := Lib.hid fun W hW => by
        have h1 := bp.below hW bp.lt
        exact ⟨HF.out W (below_next (below_next hbel be) hW), h1.cell 0, h1.cell 1, h1.cell 2⟩
      obtain ⟨⟨f0, f1, f2, f3, f4⟩, d0, d1, d2⟩ := HC.out Wp (Below.refl _ _)
      have HOp := Lib.hid (And.intro (own_below HO.out.2.2.2.1 be) (below_next hbel be))
      have i1 : (0 : Int) ≤ j := by omega
      have i2 : (j : Int) < n := by omega
      unfold Fl.val Pn.val at HHAS
      dsimp only at HHAS
      have HZP := Lib.hid bp.lt
      clear hx hbb hbel bp be
      go_wp2_with fail
      clear c0 c1 c2 hWp
      refine (HHAS.out _).mono ?_
      rintro e w1 ⟨rfl, b1⟩
      have HO1 := Lib.hid (And.intro (own_below HOp.out.1 b1) (below_next HOp.out.2 b1))
      have HB1 := Lib.hid b1
      have HNE : Hid (some w.heap.size ≠ u5.ownBlock ∧ some wr.heap.size ≠ u5.ownBlock ∧ w.heap.size < Wp.heap.size ∧ wr.heap.size < Wp.heap.size) := Lib.hid ⟨fun e => by have := (HO.out.2.2.2.1.lt _ e.symm).1; have := HZ.out; omega, fun e => by have := (HO.out.2.2.2.1.lt _ e.symm).2; omega, by have := HZ.out; have := HOp.out.2.size; omega, HZP.out⟩
      clear b1 f0 f1 f2 f3 f4 d0 d1 d2
      cases bb
      · have e := filter_no (by rw [HOK.out.2]; exact hlt) HX.out.1 HX.out.2
        have HE := Lib.hid e
        clear e
        go_wp2_with fail
        exact ⟨⟨j + 1, m0, L, by omega, by go_num, by omega, HO.out.1, by rw [HE.out]; exact HO.out.2.1, HO.out.2.2.1, HO1.out.1, HO1.out.2⟩, by simp [intOf]; omega⟩
      · have e := filter_yes (by rw [HOK.out.2]; exact hlt) HX.out.1 HX.out.2
        have HE := Lib.hid e
        clear e
        have D0 : Below Wp.heap.size Wp w1.drew := HB1.out.drew
        have hone : ∀ (U : ByteArray), ∀ u ∈ ([.string U, .string xk, .int .i64 xs, .int .i64 xe] : List Value), u.oneCell' = true := by simp [Value.oneCell']
        have hlenD : m0 + 1 ≤ maxLen := by unfold maxLen; omega
        have hbytD : (m0 + 1) * 48 ≤ 140737488355328 := by omega
        have HN := Lib.hid (And.intro hone (And.intro hlenD hbytD))
        clear hone hlenD hbytD
        go_wp2_with fail
        go_region_held3 (fun W => (W.cell? ⟨w.heap.size, 0, none⟩ = some (.int .u8 (fk : Int)) ∧ W.cell? ⟨w.heap.size, 1, none⟩ = some (.string fK) ∧ W.cell? ⟨w.heap.size, 2, none⟩ = some (.string fT) ∧ W.cell? ⟨w.heap.size, 3, none⟩ = some (.int .i64 fl) ∧ W.cell? ⟨w.heap.size, 4, none⟩ = some (.int .i64 fm)) ∧ W.cell? ⟨wr.heap.size, 0, none⟩ = some (.string xk) ∧ W.cell? ⟨wr.heap.size, 1, none⟩ = some (.int .i64 xs) ∧ W.cell? ⟨wr.heap.size, 2, none⟩ = some (.int .i64 xe)) (first | with_reducible exact HC.out _ D0 | with_reducible exact HC.out _ D1 | with_reducible exact HC.out _ (D1.alloc D1.size _) | with_reducible exact HS2.out) (first
          | (refine step_append_here rfl (.tmp 20) (.tmp 26) 50 rfl w0.heap.size 52 iq (.agg #[.string ⟨#[]⟩, .string ⟨#[]⟩, .int .i64 0, .int .i64 0]) 4 48 Try.underlying50 HJ.out.1 HJ.out.2.1 HJ.out.2.2.1 HJ.out.2.2.2 rfl (by decide) u5 m0 (plcells L) rfl (HD.out.1.alloc _) ⟨w2.heap.size, 0, none⟩ 1 1 [.string U, .string xk, .int .i64 xs, .int .i64 xe] rfl rfl (pl4 w2 _ U xk xs xe) (HN.out.1 U) (by decide) HN.out.2.1 HN.out.2.2 HD.out.2.2 _ rfl ?_; intro g cap w3 hown1 hg1 _ _; have HS2 : Hid ((fun W => (W.cell? ⟨w.heap.size, 0, none⟩ = some (.int .u8 (fk : Int)) ∧ W.cell? ⟨w.heap.size, 1, none⟩ = some (.string fK) ∧ W.cell? ⟨w.heap.size, 2, none⟩ = some (.string fT) ∧ W.cell? ⟨w.heap.size, 3, none⟩ = some (.int .i64 fl) ∧ W.cell? ⟨w.heap.size, 4, none⟩ = some (.int .i64 fm)) ∧ W.cell? ⟨wr.heap.size, 0, none⟩ = some (.string xk) ∧ W.cell? ⟨wr.heap.size, 1, none⟩ = some (.int .i64 xs) ∧ W.cell? ⟨wr.heap.size, 2, none⟩ = some (.int .i64 xe)) w3) := Lib.hid (by have hc := HC.out _ (D1.alloc D1.size (.cells #[.string U, .string xk, .int .i64 xs, .int .i64 xe] 52)); have hs := (D1.alloc D1.size (.cells #[.string U, .string xk, .int .i64 xs, .int .i64 xe] 52)).size; have k1 := HNE.out.2.2; exact ⟨⟨(keep_far hg1 (by omega) HNE.out.1 _).trans hc.1.1, (keep_far hg1 (by omega) HNE.out.1 _).trans hc.1.2.1, (keep_far hg1 (by omega) HNE.out.1 _).trans hc.1.2.2.1, (keep_far hg1 (by omega) HNE.out.1 _).trans hc.1.2.2.2.1, (keep_far hg1 (by omega) HNE.out.1 _).trans hc.1.2.2.2.2⟩, (keep_far hg1 (by omega) HNE.out.2.1 _).trans hc.2.1, (keep_far hg1 (by omega) HNE.out.2.1 _).trans hc.2.2.1, (keep_far hg1 (by omega) HNE.out.2.1 _).trans hc.2.2.2⟩))
          | (go_at_call 23; (with_reducible refine (HROW.out _).mono ?_); rintro x w2 ⟨U, rfl, hU, hUs, b2⟩; have D1 := below_next D0 b2; have HD := Lib.hid (And.intro (own_below (show w1.drew.ownsRow w0.heap.size 52 4 u5 m0 (plcells L) from HO1.out.1) b2) (And.intro (below_next (show Below w0.heap.size w0 w1.drew from HO1.out.2.drew) b2) (show w0.heap.size ≤ (w2.alloc (.cells #[.string U, .string xk, .int .i64 xs, .int .i64 xe] 52)).heap.size by have := (below_next (show Below w0.heap.size w0 w1.drew from HO1.out.2.drew) b2).size; simp; omega))); have HU := Lib.hid hU; clear D0 b2 hU))
        have b3 : Below w0.heap.size w0 w3 := grow_below HD.out.2.1 hg1 (fun g hg => (HO.out.2.2.2.1.lt g hg).1)
        rw [show plcells L ++ [.string U, .string xk, .int .i64 xs, .int .i64 xe] = plcells (L ++ [⟨U, ⟨xk, xs, xe⟩⟩]) from (plcells_snoc L ⟨U, ⟨xk, xs, xe⟩⟩).symm] at hown1
        have HO3 := Lib.hid (And.intro hown1 b3)
        clear hown1 hg1 b3
        go_wp2_with fail
        refine ⟨⟨j + 1, m0 + 1, L ++ [⟨U, ⟨xk, xs, xe⟩⟩], by omega, by go_num, by omega, by rw [List.length_append, HO.out.1]; rfl, by rw [HE.out, List.map_append, HO.out.2.1]; rfl, ?_, HO3.out.1, HO3.out.2⟩, by simp [intOf]; omega⟩
        intro z hz
        rcases List.mem_append.1 hz with hz | hz
        · exact HO.out.2.2.1 z hz
        · obtain rfl := List.mem_singleton.1 hz
          exact HU.out
    · obtain rfl : n = j := by omega
      obtain ⟨A1, c1, rfl⟩ := own_slice HO.out.2.2.2.1
      have HSRT := Lib.hid (fun W (h : W.ownsRow w0.heap.size 52 4 (.slice A1 m0 c1) m0 (plcells L)) => sortPl_all A1 m0 c1 w0.heap.size L W h HO.out.1 (by omega))
      go_wp2_with fail
      refine (HSRT.out _ HO.out.2.2.2.1).mono ?_
      rintro e ws ⟨rfl, X, hpx, hsx, ownx, gx⟩
      have bx : Below w0.heap.size w0 ws := below_row HO.out.2.2.2.2 gx (fun g hg => (HO.out.2.2.2.1.lt g hg).1)
      have hXl : X.length = m0 := hpx.length_eq.trans HO.out.1
      have HX := Lib.hid (And.intro hpx (And.intro hsx (And.intro ownx (And.intro bx hXl))))
      clear hpx hsx ownx gx bx hXl
      go_wp2_with fail
      go_loopw [8, 10, 33] (fun v _ i wr => ∃ (j : Nat), j ≤ m0 ∧ i = .int .i64 (j : Int) ∧ wr.ownsRow ws.heap.size 33 3 v j (pncells ((X.take j).map Pl.p)) ∧ Below ws.heap.size ws wr) (fun _ _ i _ => m0 - (intOf i).toNat)
      case atStart => exact ⟨0, by omega, rfl, own_nil _ _ _ _, Below.refl _ _⟩
      case round =>
        obtain ⟨j, hj, rfl, hown, hbel⟩ := hrel
        have HO2 := Lib.hid (And.intro hown hbel)
        clear hown
        by_cases hlt : j < m0
        · obtain ⟨x, hx⟩ : ∃ x, X.getD j default = x := ⟨_, rfl⟩
          have hst := plsnoc_at X j (by rw [HX.out.2.2.2.2]; exact hlt)
          rw [hx] at hst
          obtain ⟨g, rfl⟩ : ∃ g, A1 = some ⟨g, 0, none⟩ := by
            rcases HX.out.2.2.1.2 with ⟨_, e⟩ | ⟨g, c', cur, e, _⟩
            · omega
            · injection e with e; exact ⟨g, e⟩
          have hgw : g < ws.heap.size := (HX.out.2.2.1.lt g rfl).2
          have hcell : ∀ k, k < 4 → wr.cell? ⟨g, j * 4 + k, none⟩ = (plL x)[k]? := fun k hk => by
            rw [hbel.cell (p := ⟨g, _, none⟩) hgw, HX.out.2.2.1.cellAt _ (by omega), plcells_at X j k (by rw [HX.out.2.2.2.2]; exact hlt) hk, hx]
          obtain ⟨U, xk, xs, xe⟩ := x
          have c0 : wr.cell? ⟨g, j * 4, none⟩ = some (.string U) := hcell 0 (by omega)
          have c1' : wr.cell? ⟨g, j * 4 + 1, none⟩ = some (.string xk) := hcell 1 (by omega)
          have c2 : wr.cell? ⟨g, j * 4 + 2, none⟩ = some (.int .i64 xs) := hcell 2 (by omega)
          have c3 : wr.cell? ⟨g, j * 4 + 3, none⟩ = some (.int .i64 xe) := hcell 3 (by omega)
          have HS := Lib.hid hst
          have i1 : (0 : Int) ≤ j := by omega
          have i2 : (j : Int) < m0 := by omega
          obtain ⟨Wb, hWb⟩ : ∃ W, wr.alloc (.cells #[.string U, .string xk, .int .i64 xs, .int .i64 xe] 52) = W := ⟨_, rfl⟩
          have bp := Blk.new wr 52 #[.string U, .string xk, .int .i64 xs, .int .i64 xe]
          have be : Below wr.heap.size wr (wr.alloc (.cells #[.string U, .string xk, .int .i64 xs, .int .i64 xe] 52)) := (Below.refl _ _).alloc (Nat.le_refl _) _
          rw [hWb] at bp be
          have d1 : Wb.cell? ⟨wr.heap.size, 1, none⟩ = some (.string xk) := bp.cell 1
          have d2 : Wb.cell? ⟨wr.heap.size, 2, none⟩ = some (.int .i64 xs) := bp.cell 2
          have d3 : Wb.cell? ⟨wr.heap.size, 3, none⟩ = some (.int .i64 xe) := bp.cell 3
          have HO4 := Lib.hid (And.intro (own_below HO2.out.1 be) (below_next HO2.out.2 be))
          clear hx hst hcell hbel bp be
          go_wp2_with (at_builtin; refine wpList_append_own _ rfl _ _ 29 rfl ws.heap.size 33 ip (.agg #[.string ⟨#[]⟩, .int .i64 0, .int .i64 0]) 3 32 Try.underlying29 HI.out.1 HI.out.2.1 HI.out.2.2.1 HI.out.2.2.2 rfl (by decide) _ j _ rfl (HO4.out.1.alloc _) ⟨Wb.heap.size, 0, none⟩ 1 1 [.string xk, .int .i64 xs, .int .i64 xe] rfl rfl (pn3 Wb _ xk xs xe) (by simp [Value.oneCell']) (by unfold maxLen; omega) (by omega) (by have := HO4.out.2.size; simp; omega) ?_; intro v' w4 ho1 hg1 hv1; clear hv1)
          have hb1 := grow_below HO4.out.2 hg1 (fun g hg => (HO4.out.1.lt g hg).1)
          rw [show ∀ K : List Pn, pncells K ++ [.string xk, .int .i64 xs, .int .i64 xe] = pncells (K ++ [⟨xk, xs, xe⟩]) from fun K => (pncells_snoc K ⟨xk, xs, xe⟩).symm] at ho1
          refine ⟨⟨j + 1, by omega, by go_num, ?_, hb1⟩, by simp [intOf]; omega⟩
          rw [HS.out, List.map_append]
          exact ho1
        · obtain rfl : m0 = j := by omega
          obtain ⟨A2, c2, rfl⟩ := own_slice HO2.out.1
          go_wp2_with fail
          go_ret
          have e : X.map Pl.p = (Fl.mk fk fK fT fl fm).sort l := by
            refine (Fl.mk fk fK fT fl fm).sort_is HOK.out.1 ?_ ?_
            · have := HX.out.1.map Pl.p
              rwa [HO.out.2.1, List.take_of_length_le (by rw [HOK.out.2]; exact Nat.le_refl _)] at this
            · rw [List.pairwise_map]
              refine HX.out.2.1.imp_of_mem fun ha hb h => ?_
              rw [← HO.out.2.2.1 _ (HX.out.1.subset ha), ← HO.out.2.2.1 _ (HX.out.1.subset hb)]
              intro h2
              unfold plcmp at h
              omega
          refine ⟨A2, m0, c2, rfl, ?_, ?_⟩
          · have h3 := HO2.out.1
            rw [List.take_of_length_le (by rw [HX.out.2.2.2.2]; exact Nat.le_refl _), e] at h3
            exact own_lower h3 (Nat.le_trans HBE.out.size HX.out.2.2.2.1.size)
          · exact HBE.out.trans ((below_next HX.out.2.2.2.1 HO2.out.2).mono HBE.out.size)
end Go.Proofs.Ytponelbfddfliaa
