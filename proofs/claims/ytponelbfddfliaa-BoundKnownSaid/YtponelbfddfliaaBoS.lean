/- Layer 10's reference: those panes that a filter has, sorted. Made by tools/gen/bos.py. -/
import Derived.Test.YtponelbfddfliaaBoO
import Derived.Test.YtponelbfddfliaaBoR
import Derived.Test.YtponelbfddfliaaBoL
import Derived.Deep.DeepCutAuto
namespace Go.Proofs.Ytponelbfddfliaa
open Go.ChangeShapes Go.WideShapes Go.ChangeAt Go.RowKit

theorem Try.info34 : (Try.prog.info? 34).map (fun i => (i.zero, i.size, i.bytes)) = some (some (.agg #[.string ⟨#[]⟩, .int .i64 0, .int .i64 0]), 3, 32) := by kernel_rfl
theorem srtB_len (f : Pn → Pn → Bool) (l : List Pn) : (srtB f l).length = l.length := (srtB_perm f l).length_eq
theorem take_yes {h : Pn → Bool} {l : List Pn} {j : Nat} (hj : j < l.length) {x : Pn} (hx : l.getD j default = x) (hh : h x = true) : (l.take (j + 1)).filter h = (l.take j).filter h ++ [x] := by
  rw [psnoc_at l j hj, hx, List.filter_append]
  simp [hh]
theorem take_no {h : Pn → Bool} {l : List Pn} {j : Nat} (hj : j < l.length) {x : Pn} (hx : l.getD j default = x) (hh : h x = false) : (l.take (j + 1)).filter h = (l.take j).filter h := by
  rw [psnoc_at l j hj, hx, List.filter_append]
  simp [hh]
theorem sinkB_len (f : Pn → Pn → Bool) (l : List Pn) (j : Nat) : (sinkB f l j).length = l.length := by
  induction j generalizing l with
  | zero => rfl
  | succ j ih =>
    unfold sinkB
    split
    · rw [ih]; simp
    · rfl
set_option maxRecDepth 100000 in
set_option maxHeartbeats 4000000 in
theorem refSort_any (fk : Nat) (fK fT : ByteArray) (fl fm : Int) (n c B : Nat) (A : Option Addr) (l : List Pn) (w : World) (h : PansIn w B A n l) (hl : ∀ p ∈ l, panOk p) (hB : B ≤ w.heap.size) (hn : n ≤ 1000) :
    Calls Try.prog 12 #[.agg #[.int .u8 (fk : Int), .string fK, .string fT, .int .i64 fl, .int .i64 fm], .slice A n c] w (PansP 34 w ((Fl.mk fk fK fT fl fm).sort l)) := by
  obtain ⟨i0, hi, hz0, hz1, hz2⟩ := info_parts Try.info34
  have HI := Lib.hid (And.intro hi (And.intro hz0 (And.intro hz1 hz2)))
  obtain ⟨sec, hsec⟩ : ∃ b, decide (fk = 3) = b := ⟨_, rfl⟩
  have hs3 : ((fk : Int) == 3) = sec := by
    rw [← hsec]
    by_cases h : fk = 3
    · subst h; rfl
    · rw [decide_eq_false h, beq_eq_false_iff_ne]; omega
  have hsf : (Fl.mk fk fK fT fl fm).sec = sec := hsec
  obtain ⟨w0, hw0⟩ : ∃ w0, w.alloc (.cells #[.int .u8 (fk : Int), .string fK, .string fT, .int .i64 fl, .int .i64 fm] 37) = w0 := ⟨_, rfl⟩
  have hbk := Blk.new w 37 #[.int .u8 (fk : Int), .string fK, .string fT, .int .i64 fl, .int .i64 fm]
  have hbe : Below w.heap.size w (w.alloc (.cells #[.int .u8 (fk : Int), .string fK, .string fT, .int .i64 fl, .int .i64 fm] 37)) := (Below.refl _ _).alloc (Nat.le_refl _) _
  have hz : (w.alloc (.cells #[.int .u8 (fk : Int), .string fK, .string fT, .int .i64 fl, .int .i64 fm] 37)).heap.size = w.heap.size + 1 := by simp
  rw [hw0] at hbk hbe hz
  have HF : Hid (∀ W, Below w0.heap.size w0 W → (W.cell? ⟨w.heap.size, 0, none⟩ = some (.int .u8 (fk : Int)) ∧ W.cell? ⟨w.heap.size, 1, none⟩ = some (.string fK) ∧ W.cell? ⟨w.heap.size, 2, none⟩ = some (.string fT) ∧ W.cell? ⟨w.heap.size, 3, none⟩ = some (.int .i64 fl) ∧ W.cell? ⟨w.heap.size, 4, none⟩ = some (.int .i64 fm))) := Lib.hid fun W hW => by
    have hb := hbk.below hW (by omega)
    exact ⟨hb.cell 0, hb.cell 1, hb.cell 2, hb.cell 3, hb.cell 4⟩
  have HBE := Lib.hid hbe
  have HP := Lib.hid (h.below hbe hB)
  have HBB := Lib.hid (Nat.lt_of_le_of_lt hB (by omega : w.heap.size < w0.heap.size))
  have HOK := Lib.hid (And.intro hl h.1)
  have HSF := Lib.hid hsf
  clear hi hz0 hz1 hz2 h hB hbk hbe hz hl hsec hsf
  go_enter Try.func12, Try.ntmps12
  go_wp2_with fail
  clear hw0
  go_loopw [5, 6, 7] (fun r i _ wr => ∃ (j m : Nat), j ≤ n ∧ i = .int .i64 (j : Int) ∧ (srtB (ahead sec) ((l.take j).filter (Fl.mk fk fK fT fl fm).has)).length = m ∧ m ≤ j ∧ wr.ownsRow w0.heap.size 34 3 r m (pncells (srtB (ahead sec) ((l.take j).filter (Fl.mk fk fK fT fl fm).has))) ∧ Below w0.heap.size w0 wr) (fun _ i _ _ => n - (intOf i).toNat)
  case atStart => exact ⟨0, 0, by omega, rfl, rfl, Nat.le_refl _, own_nil _ _ _ _, Below.refl _ _⟩
  case round =>
    obtain ⟨j, m0, hj, rfl, hm0, hmj, hown, hbel⟩ := hrel
    have HO := Lib.hid (And.intro hm0 (And.intro hown hbel))
    clear hown hm0
    by_cases hlt : j < n
    · obtain ⟨x, hx⟩ : ∃ x, l.getD j default = x := ⟨_, rfl⟩
      obtain ⟨b, off, rfl, hb, hc⟩ := HP.out.pan hlt hx
      obtain ⟨bb, hbb⟩ : ∃ b, (Fl.mk fk fK fT fl fm).has x = b := ⟨_, rfl⟩
      have HX := Lib.hid (And.intro hx hbb)
      have HHAS := Lib.hid (fun W => refHas_any (Fl.mk fk fK fT fl fm) x W)
      rw [hbb] at HHAS
      have HXO : Hid (panOk x) := Lib.hid (HOK.out.1 x (by rw [← hx, List.getD_eq_getElem?_getD, List.getElem?_eq_getElem (by rw [HOK.out.2]; exact hlt)]; exact List.getElem_mem _))
      obtain ⟨xk, xs, xe⟩ := x
      dsimp only at hc
      have hz : b < w0.heap.size := by have := HBB.out; omega
      have HC : Hid (∀ W, Below wr.heap.size wr W → (fun W => (W.cell? ⟨w.heap.size, 0, none⟩ = some (.int .u8 (fk : Int)) ∧ W.cell? ⟨w.heap.size, 1, none⟩ = some (.string fK) ∧ W.cell? ⟨w.heap.size, 2, none⟩ = some (.string fT) ∧ W.cell? ⟨w.heap.size, 3, none⟩ = some (.int .i64 fl) ∧ W.cell? ⟨w.heap.size, 4, none⟩ = some (.int .i64 fm)) ∧ W.cell? ⟨b, off + j * 3, none⟩ = some (.string xk) ∧ W.cell? ⟨b, off + j * 3 + 1, none⟩ = some (.int .i64 xs) ∧ W.cell? ⟨b, off + j * 3 + 2, none⟩ = some (.int .i64 xe)) W) := Lib.hid fun W hW => by
        obtain ⟨c0, c1, c2⟩ := hc
        have hW := below_next hbel hW
        exact ⟨HF.out W hW, (hW.cell (p := ⟨b, _, none⟩) hz).trans c0, (hW.cell (p := ⟨b, _, none⟩) hz).trans c1, (hW.cell (p := ⟨b, _, none⟩) hz).trans c2⟩
      have D0 : Below wr.heap.size wr wr.drew := (Below.refl _ _).drew
      have i1 : (0 : Int) ≤ j := by omega
      have i2 : (j : Int) < n := by omega
      unfold Fl.val Pn.val at HHAS
      dsimp only at HHAS
      clear hc hx hbb hbel
      go_wp2_with fail
      go_region_held3 (fun W => (W.cell? ⟨w.heap.size, 0, none⟩ = some (.int .u8 (fk : Int)) ∧ W.cell? ⟨w.heap.size, 1, none⟩ = some (.string fK) ∧ W.cell? ⟨w.heap.size, 2, none⟩ = some (.string fT) ∧ W.cell? ⟨w.heap.size, 3, none⟩ = some (.int .i64 fl) ∧ W.cell? ⟨w.heap.size, 4, none⟩ = some (.int .i64 fm)) ∧ W.cell? ⟨b, off + j * 3, none⟩ = some (.string xk) ∧ W.cell? ⟨b, off + j * 3 + 1, none⟩ = some (.int .i64 xs) ∧ W.cell? ⟨b, off + j * 3 + 2, none⟩ = some (.int .i64 xe)) (first | with_reducible exact HC.out _ D0 | with_reducible exact HC.out _ D1) (first
        | (go_at_call 21; (with_reducible refine (HHAS.out _).mono ?_); rintro e w1 ⟨rfl, b1⟩; have D1 := below_next D0 b1; clear D0 b1))
      obtain ⟨⟨f0, f1, f2, f3, f4⟩, d0, d1, d2⟩ := HC.out _ D1
      have HO1 := Lib.hid (And.intro HO.out.1 (And.intro (own_below HO.out.2.1 D1) (below_next HO.out.2.2 D1)))
      clear D1
      cases bb
      · clear f0 f1 f2 f3 f4 d0 d1 d2
        have e := take_no (by rw [HOK.out.2]; exact hlt) HX.out.1 HX.out.2
        have HE := Lib.hid e
        clear e
        go_wp2_with fail
        go_roundw
        case rel => exact ⟨j + 1, m0, by omega, by go_num, by rw [HE.out]; exact HO1.out.1, by omega, by rw [HE.out]; exact HO1.out.2.1, HO1.out.2.2⟩
        case measure => simp [intOf]; omega
      · clear f0 f1 f2 f3 f4
        have e := take_yes (by rw [HOK.out.2]; exact hlt) HX.out.1 HX.out.2
        obtain ⟨X0, hX0⟩ : ∃ X, srtB (ahead sec) ((l.take j).filter (Fl.mk fk fK fT fl fm).has) ++ [⟨xk, xs, xe⟩] = X := ⟨_, rfl⟩
        obtain ⟨XT, hXT⟩ : ∃ X, srtB (ahead sec) ((l.take (j + 1)).filter (Fl.mk fk fK fT fl fm).has) = X := ⟨_, rfl⟩
        have hT : sinkB (ahead sec) X0 m0 = XT := by rw [← hX0, ← hXT, e, srtB_snoc, HO1.out.1]
        have hok0 : ∀ p ∈ X0, panOk p := by
          intro p hp
          rw [← hX0] at hp
          rcases List.mem_append.1 hp with hp | hp
          · have := (srtB_perm _ _).subset hp
            exact HOK.out.1 p (List.mem_of_mem_take (List.mem_filter.1 this).1)
          · obtain rfl := List.mem_singleton.1 hp
            exact HXO.out
        have hlt0 : XT.length = m0 + 1 := by rw [← hT, sinkB_len, ← hX0, List.length_append, HO1.out.1]; rfl
        have HT := Lib.hid (And.intro hX0 (And.intro hT (And.intro hok0 (And.intro hXT hlt0))))
        clear e hX0 hT hok0 hXT hlt0
        go_upto_region 7 with (at_builtin; refine wpList_append_own _ rfl _ _ 30 rfl w0.heap.size 34 i0 (.agg #[.string ⟨#[]⟩, .int .i64 0, .int .i64 0]) 3 32 Try.underlying30 HI.out.1 HI.out.2.1 HI.out.2.2.1 HI.out.2.2.2 rfl (by decide) _ m0 _ rfl (HO1.out.2.1.alloc _) ⟨w1.heap.size, 0, none⟩ 1 1 [.string xk, .int .i64 xs, .int .i64 xe] rfl rfl (pcells3 w1 _ ⟨xk, xs, xe⟩) (by simp [Value.oneCell']) (by unfold maxLen; omega) (by omega) (by have := HO1.out.2.2.size; simp; omega) ?_; intro v' w2 ho1 hg1 hv1; clear hv1)
        obtain ⟨A', c', rfl⟩ := own_slice ho1
        obtain ⟨ln, hln⟩ : ∃ k, m0 + 1 = k := ⟨_, rfl⟩
        rw [hln] at ho1 ⊢
        have hb1 := grow_below HO1.out.2.2 hg1 (fun g hg => (HO1.out.2.1.lt g hg).1)
        rw [show ∀ L : List Pn, pncells L ++ [.string xk, .int .i64 xs, .int .i64 xe] = pncells (L ++ [⟨xk, xs, xe⟩]) from fun L => (pncells_snoc L ⟨xk, xs, xe⟩).symm, HT.out.1] at ho1
        obtain ⟨g, rfl⟩ : ∃ g, A' = some ⟨g, 0, none⟩ := by
          rcases ho1.2 with ⟨_, h0⟩ | ⟨g, cap, cur, e, _⟩
          · omega
          · injection e with e1; exact ⟨g, e1⟩
        have HK := Lib.hid (And.intro (OwnP.of_own ho1) hb1)
        have hww : IntKind.i64.wrap ((ln : Int) - 1) = (m0 : Int) := by rw [IntWalk.i64_in _ (by omega)]; omega
        clear ho1 hg1 hb1 d0 d1 d2
        go_wp2_with fail
        go_loopw [7] (fun k wr => ∃ (m : Nat) (X : List Pn), m ≤ m0 ∧ k = .int .i64 (m : Int) ∧ sinkB (ahead sec) X m = XT ∧ OwnP 34 wr w0.heap.size g ln c' X ∧ Below w0.heap.size w0 wr ∧ ∀ p ∈ X, panOk p) (fun k _ => (intOf k).toNat)
        case atStart => exact ⟨m0, X0, Nat.le_refl _, rfl, HT.out.2.1, HK.out.1, HK.out.2, HT.out.2.2.1⟩
        case round =>
          obtain ⟨m, X, hm, rfl, hs, ho, hb, hpo⟩ := hrel
          have HY := Lib.hid (And.intro hs (And.intro ho (And.intro hb hpo)))
          clear hs ho hb hpo
          cases m with
          | zero =>
            rw [show ((0 : Nat) : Int) = 0 from rfl]
            go_wp2_with fail
            go_quiet (fail)
            go_wp2_with fail
            have e : X = XT := HY.out.1
            refine ⟨⟨j + 1, ln, by omega, by go_num, by rw [HT.out.2.2.2.1, HT.out.2.2.2.2]; omega, by omega, ?_, below_drewN HY.out.2.2.1 _⟩, by simp [intOf]; omega⟩
            rw [HT.out.2.2.2.1, ← e]
            exact (HY.out.2.1.below (below_drewN (Below.refl _ _) _)).to_own
          | succ m =>
            obtain ⟨q, hq⟩ : ∃ q, m + 1 = q := ⟨_, rfl⟩
            rw [hq] at HY hm ⊢
            obtain ⟨z, hzz⟩ : ∃ z, X.getD q default = z := ⟨_, rfl⟩
            obtain ⟨y, hy⟩ : ∃ y, X.getD m default = y := ⟨_, rfl⟩
            have hw1 : IntKind.i64.wrap ((q : Int) - 1) = (m : Int) := by rw [IntWalk.i64_in _ (by omega)]; omega
            have q1 : (0 : Int) < q := by omega
            have q2 : (q : Int) < ln := by omega
            have q3 : (0 : Int) ≤ q := by omega
            have q5 : 0 < q := by omega
            have q4 : decide ((0 : Int) < q) = true := decide_eq_true q1
            have m1 : (0 : Int) ≤ m := by omega
            have m2 : (m : Int) < ln := by omega
            have hXl : X.length = ln := HY.out.2.1.2.2.2.1
            have mem : ∀ i, i < ln → X.getD i default ∈ X := fun i hi => by
              rw [List.getD_eq_getElem?_getD, List.getElem?_eq_getElem (by omega)]
              exact List.getElem_mem _
            obtain ⟨lv, hlv⟩ : ∃ v, ahead sec z y = v := ⟨_, rfl⟩
            have HLE := Lib.hid (fun W => refLess_any sec z.k y.k z.s z.e y.s y.e W (HY.out.2.2.2 _ (by rw [← hzz]; exact mem q (by omega))) (HY.out.2.2.2 _ (by rw [← hy]; exact mem m (by omega))))
            rw [show (⟨z.k, z.s, z.e⟩ : Pn) = z from rfl, show (⟨y.k, y.s, y.e⟩ : Pn) = y from rfl, hlv] at HLE
            have HE := Lib.hid (And.intro hzz (And.intro hy (And.intro hq hlv)))
            have HC : Hid (∀ W, Below wr.heap.size wr W → OwnP 34 W w0.heap.size g ln c' X) := Lib.hid fun W hW => HY.out.2.1.below hW
            have HD : Hid (∀ W, Below wr.heap.size wr W → (fun W => W.cell? ⟨w.heap.size, 0, none⟩ = some (.int .u8 (fk : Int)) ∧ (W.cell? ⟨g, m * 3, none⟩ = some (.string y.k) ∧ W.cell? ⟨g, m * 3 + 1, none⟩ = some (.int .i64 y.s) ∧ W.cell? ⟨g, m * 3 + 2, none⟩ = some (.int .i64 y.e)) ∧ W.cell? ⟨g, q * 3, none⟩ = some (.string z.k) ∧ W.cell? ⟨g, q * 3 + 1, none⟩ = some (.int .i64 z.s) ∧ W.cell? ⟨g, q * 3 + 2, none⟩ = some (.int .i64 z.e)) W) := Lib.hid fun W hW => ⟨(HF.out W (below_next HY.out.2.2.1 hW)).1, (HC.out W hW).cells (by omega) hy, (HC.out W hW).cells (by omega) hzz⟩
            have D0 : Below wr.heap.size wr wr.drew := (Below.refl _ _).drew
            have HPO : Hid (panOk z ∧ panOk y) := Lib.hid ⟨HY.out.2.2.2 _ (by rw [← hzz]; exact mem q (by omega)), HY.out.2.2.2 _ (by rw [← hy]; exact mem m (by omega))⟩
            clear hzz hy hq hlv hXl mem
            go_wp2_with fail
            go_region_held3 (fun W => W.cell? ⟨w.heap.size, 0, none⟩ = some (.int .u8 (fk : Int)) ∧ (W.cell? ⟨g, m * 3, none⟩ = some (.string y.k) ∧ W.cell? ⟨g, m * 3 + 1, none⟩ = some (.int .i64 y.s) ∧ W.cell? ⟨g, m * 3 + 2, none⟩ = some (.int .i64 y.e)) ∧ W.cell? ⟨g, q * 3, none⟩ = some (.string z.k) ∧ W.cell? ⟨g, q * 3 + 1, none⟩ = some (.int .i64 z.s) ∧ W.cell? ⟨g, q * 3 + 2, none⟩ = some (.int .i64 z.e)) (first | with_reducible exact HD.out _ D0 | with_reducible exact HD.out _ D1) (first
              | (go_at_call 22; (with_reducible refine (HLE.out _).mono ?_); rintro e w5 ⟨rfl, b5⟩; have D1 := below_next D0 b5; clear D0 b5))
            have HD1 := Lib.hid D1
            clear D1
            cases lv
            · go_wp2_with fail
              have e := HY.out.1
              rw [← HE.out.2.2.1, sinkB_stop _ _ _ (by rw [HE.out.2.2.1, HE.out.1, HE.out.2.1]; exact HE.out.2.2.2)] at e
              refine ⟨⟨j + 1, ln, by omega, by go_num, by rw [HT.out.2.2.2.1, HT.out.2.2.2.2]; omega, by omega, ?_, below_next HY.out.2.2.1 HD1.out⟩, by simp [intOf]; omega⟩
              rw [HT.out.2.2.2.1, ← e]
              exact (HC.out _ HD1.out).to_own
            · obtain ⟨_, ⟨y0, y1, y2⟩, z0, z1, z2⟩ := HD.out _ HD1.out
              have hfz := fun o => (HC.out _ HD1.out).frozen o
              have hmq : m ≠ q := by have := HE.out.2.2.1; omega
              have hmq2 : m < q := by have := HE.out.2.2.1; omega
              have hmq3 : m * 3 ≠ q * 3 := by omega
              go_wp2_with fail
              go_region
              go_wp2_with fail
              have RB := ((HC.out _ HD1.out).set (i := m) (by omega) z).set (i := q) (by omega) y
              have GB := below_pan (below_pan (below_next HY.out.2.2.1 HD1.out) (HC.out _ HD1.out).1 (m * 3) z) (HC.out _ HD1.out).1 (q * 3) y
              rw [List.set_comm _ _ hmq] at RB
              obtain ⟨W2, hW2⟩ : ∃ W2, setPan (setPan w5 g (m * 3) z) g (q * 3) y = W2 := ⟨_, rfl⟩
              rw [hW2] at RB GB
              unfold setPan at hW2
              rw [hW2]
              clear hW2 y0 y1 y2 z0 z1 z2
              have e := HY.out.1
              rw [← HE.out.2.2.1, sinkB_go _ _ _ (by rw [HE.out.2.2.1, HE.out.1, HE.out.2.1]; exact HE.out.2.2.2), HE.out.2.2.1, HE.out.1, HE.out.2.1] at e
              refine ⟨⟨m, (X.set q y).set m z, by omega, rfl, e, ?_, ?_, ?_⟩, by simp [intOf]; omega⟩
              · exact RB
              · exact GB.drew
              · intro p hp
                rcases List.mem_or_eq_of_mem_set hp with hp | rfl
                · rcases List.mem_or_eq_of_mem_set hp with hp | rfl
                  · exact HY.out.2.2.2 p hp
                  · exact HPO.out.2
                · exact HPO.out.1
    · obtain rfl : n = j := by omega
      obtain ⟨A1, c1, rfl⟩ := own_slice HO.out.2.1
      go_wp2_with fail
      go_ret
      refine ⟨A1, m0, c1, rfl, ?_, HBE.out.trans (HO.out.2.2.mono HBE.out.size)⟩
      have e : (Fl.mk fk fK fT fl fm).sort l = srtB (ahead sec) ((l.take n).filter (Fl.mk fk fK fT fl fm).has) := by
        unfold Fl.sort
        rw [HSF.out, List.take_of_length_le (by rw [HOK.out.2]; exact Nat.le_refl _)]
      rw [e]
      exact own_lower HO.out.2.1 HBE.out.size
end Go.Proofs.Ytponelbfddfliaa
