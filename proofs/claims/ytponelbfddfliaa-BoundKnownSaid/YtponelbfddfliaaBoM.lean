/- Layer 10: BoundFits. Made by tools/gen/bom.py. -/
import Derived.Test.YtponelbfddfliaaBoK
import Derived.Test.YtponelbfddfliaaBoJ
import Derived.Test.YtponelbfddfliaaLaw10M
namespace Go.Proofs.Ytponelbfddfliaa
open Go.ChangeShapes Go.WideShapes Go.ChangeAt Go.RowKit

theorem kpane_guard : Try.prog.eqGuardType Try.prog.depth 33 = false := by kernel_rfl
theorem kpane_self (k : ByteArray) (s e : Int) (w : World) : (Op.equalIn 10000 33 (.agg #[.string k, .int .i64 s, .int .i64 e]) (.agg #[.string k, .int .i64 s, .int .i64 e])).run Try.prog w = .ok true w := by
  have hS : Try.prog.underlying 33 = some (.struct (Try.prog.fieldsOf 33)) := by kernel_rfl
  have hp : Try.prog.stoodInHeld 33 = false := by kernel_rfl
  rw [show (10000 : Nat) = 9999 + 1 from rfl, run_equalIn_agg w 9999 33 _ _ hS hp]
  simp only [Program.fieldsOf, Try.underlying33]
  go_simp
/-- A row is read as its pane. -/
theorem row_parse (sec : Bool) (p : Pn) (hp : panOk p) : paneOf sec (Ky.parse (row sec p) (kindsOf sec)) true p := by
  have h : Ky.parse (row sec p) (kindsOf sec) = some (tos (rowP sec p)) := (Ky.parse_iff _ _ (row_bytes sec p) _).2 ⟨by cases sec <;> rfl, rowP_normal sec hp, rfl⟩
  rw [h]
  cases sec
  · exact ⟨rfl, _, _, _, rfl, rfl⟩
  · exact ⟨rfl, _, _, _, rfl, rfl⟩
theorem one_zero : nums (⟨#[0]⟩ : ByteArray) = [0] := rfl
theorem row_size (sec : Bool) (p : Pn) (hk : p.k.size ≤ 100) : (row sec p).length ≤ 1000 := by
  have h := esc_len2 (nums p.k)
  rw [nums_len] at h
  cases sec
  · rw [row_pri]
    unfold Ky.text
    simp only [List.length_append, List.length_cons, List.length_nil, Pk.be_len]
    omega
  · rw [row_sec]
    unfold Ky.text
    simp only [List.length_append, List.length_cons, List.length_nil, Pk.be_len]
    omega
set_option maxRecDepth 100000 in
set_option maxHeartbeats 4000000 in
theorem boundFits_any (fk : Nat) (fK fT : ByteArray) (fl fm : Int) (k : ByteArray) (s e : Int) (w : World) (hf : (Fl.mk fk fK fT fl fm).ok) (hs : i64ok s) (he : i64ok e) : Calls Try.prog 15 #[.agg #[.int .u8 (fk : Int), .string fK, .string fT, .int .i64 fl, .int .i64 fm], .agg #[.string k, .int .i64 s, .int .i64 e]] w (TrueP w) := by
  have S0 := ((Held.start w).new #[.int .u8 (fk : Int), .string fK, .string fT, .int .i64 fl, .int .i64 fm] 23).new #[.string k, .int .i64 s, .int .i64 e] 33
  obtain ⟨w0, hw0⟩ : ∃ w0, ((w.alloc (.cells #[.int .u8 (fk : Int), .string fK, .string fT, .int .i64 fl, .int .i64 fm] 23)).alloc (.cells #[.string k, .int .i64 s, .int .i64 e] 33)) = w0 := ⟨_, rfl⟩
  rw [hw0, show (w.alloc (.cells #[.int .u8 (fk : Int), .string fK, .string fT, .int .i64 fl, .int .i64 fm] 23)).heap.size = w.heap.size + 1 by simp] at S0
  have HC : Hid (∀ W, Below w0.heap.size w0 W → (W.cell? ⟨w.heap.size, 0, none⟩ = some (.int .u8 (fk : Int)) ∧ W.cell? ⟨w.heap.size, 1, none⟩ = some (.string fK) ∧ W.cell? ⟨w.heap.size, 2, none⟩ = some (.string fT) ∧ W.cell? ⟨w.heap.size, 3, none⟩ = some (.int .i64 fl) ∧ W.cell? ⟨w.heap.size, 4, none⟩ = some (.int .i64 fm)) ∧ W.cell? ⟨w.heap.size + 1, 0, none⟩ = some (.string k) ∧ W.cell? ⟨w.heap.size + 1, 1, none⟩ = some (.int .i64 s) ∧ W.cell? ⟨w.heap.size + 1, 2, none⟩ = some (.int .i64 e)) := Lib.hid fun W hW => by
    have h := (S0.step hW).2
    have k1 := h _ (List.mem_cons_self ..)
    have k0 := h _ (List.mem_cons_of_mem _ (List.mem_cons_self ..))
    exact ⟨⟨k0.cell 0, k0.cell 1, k0.cell 2, k0.cell 3, k0.cell 4⟩, k1.cell 0, k1.cell 1, k1.cell 2⟩
  have HBE := Lib.hid S0.1
  have HFK := Lib.hid (And.intro hf (And.intro hs he))
  have HFEW := Lib.hid (fun W => few_any (fk : Int) fK fT fl fm k s e W)
  obtain ⟨fw, hfw⟩ : ∃ b, (decide (fK.size ≤ 100) && (decide (fT.size ≤ 100) && decide (k.size ≤ 100))) = b := ⟨_, rfl⟩
  rw [hfw] at HFEW
  have HFW := Lib.hid hfw
  obtain ⟨⟨f0, f1, f2, f3, f4⟩, d0, d1, d2⟩ := HC.out w0 (Below.refl _ _)
  clear S0 hf hs he hfw
  cases fw
  · go_enter Try.func15, Try.ntmps15
    go_wp2_with fail
    refine (HFEW.out _).mono ?_
    rintro x w1 ⟨rfl, b1⟩
    go_wp2_with fail
    refine (works_any _).mono ?_
    rintro x w2 ⟨rfl, b2⟩
    go_wp2_with fail
    go_ret
    exact ⟨rfl, HBE.out.trans ((below_next b1 b2).mono HBE.out.size)⟩
  have hsz : fK.size ≤ 100 ∧ fT.size ≤ 100 ∧ k.size ≤ 100 := by
    have := HFW.out
    simp only [Bool.and_eq_true, decide_eq_true_eq] at this
    exact this
  have HSZ := Lib.hid hsz
  have hpo : panOk (Pn.mk k s e) := ⟨Nat.le_trans hsz.2.2 (by omega), HFK.out.2.1, HFK.out.2.2⟩
  have HPO := Lib.hid hpo
  have HROW := Lib.hid (fun W => row_any fk fK fT fl fm k s e W hpo)
  obtain ⟨sec, hsec⟩ : ∃ b, decide (fk = 3) = b := ⟨_, rfl⟩
  have hsf : (Fl.mk fk fK fT fl fm).sec = sec := hsec
  rw [hsec] at HROW
  obtain ⟨R, hR⟩ : ∃ R, row sec (Pn.mk k s e) = R := ⟨_, rfl⟩
  rw [hR] at HROW
  have HPA := Lib.hid (fun (U : ByteArray) W (h : U.size ≤ 1000000) => pane_any fk fK fT fl fm U W h)
  rw [hsec] at HPA
  have HB := Lib.hid (fun W => bounds_any (Fl.mk fk fK fT fl fm) W HFK.out.1 (Nat.le_trans hsz.1 (by omega)) (Nat.le_trans hsz.2.1 (by omega)))
  have HRI := Lib.hid (fun W => right_any (Fl.mk fk fK fT fl fm) W)
  have HHAS := Lib.hid (fun W => has_any (Fl.mk fk fK fT fl fm) (Pn.mk k s e) W)
  obtain ⟨rr, hrr⟩ : ∃ b, (Fl.mk fk fK fT fl fm).right = b := ⟨_, rfl⟩
  obtain ⟨hh, hhh⟩ : ∃ b, (Fl.mk fk fK fT fl fm).has (Pn.mk k s e) = b := ⟨_, rfl⟩
  rw [hrr] at HRI
  rw [hhh] at HHAS
  have HNM := Lib.hid (And.intro hsf (And.intro hR (And.intro hrr hhh)))
  unfold Fl.val at HRI HB HHAS
  unfold Pn.val at HHAS
  dsimp only at HRI HB HHAS
  have g1 := kpane_guard
  have q1 := fun W => kpane_self k s e W
  clear hsz hpo hsec hsf hR hrr hhh
  go_enter Try.func15, Try.ntmps15
  go_wp2_with fail
  clear hw0 f0 f1 f2 f3 f4 d0 d1 d2
  refine (HFEW.out _).mono ?_
  rintro x w1 ⟨rfl, b1⟩
  have B1 := b1
  obtain ⟨⟨f0, f1, f2, f3, f4⟩, d0, d1, d2⟩ := HC.out _ B1
  go_wp2_with fail
  clear f0 f1 f2 f3 f4 d0 d1 d2
  refine (HROW.out _).mono ?_
  rintro x w2 ⟨U, rfl, hU, hUs, b2⟩
  have B2 := below_next B1 b2
  have hul : U.size ≤ 1000 := by
    rw [hUs, ← HNM.out.2.1]
    exact row_size sec _ HSZ.out.2.2
  have HU := Lib.hid (And.intro hU hul)
  obtain ⟨⟨f0, f1, f2, f3, f4⟩, d0, d1, d2⟩ := HC.out _ B2
  clear hU hUs hul B1 b1 b2
  go_wp2_with fail
  clear f0 f1 f2 f3 f4 d0 d1 d2
  refine (HPA.out U _ (Nat.le_trans HU.out.2 (by omega))).mono ?_
  rintro x w3 ⟨ok, k', s', e', rfl, hpn, b3⟩
  rw [HU.out.1, ← HNM.out.2.1] at hpn
  obtain ⟨rfl, hpe⟩ := paneOf_one hpn (row_parse sec _ HPO.out)
  injection hpe with h1 h2 h3
  have h1 := h1.symm
  have h2 := h2.symm
  have h3 := h3.symm
  subst h1 h2 h3
  have B3 := below_next B2 b3
  have B4 := B3.alloc B3.size (.cells #[.string k, .int .i64 s, .int .i64 e] 33)
  have k9 := Blk.new w3 33 #[.string k, .int .i64 s, .int .i64 e]
  obtain ⟨⟨f0, f1, f2, f3, f4⟩, d0, d1, d2⟩ := HC.out _ B4
  clear hpn B2 B3 b3
  go_wp2_with fail
  clear d0 d1 d2 k9
  clear f0 f1 f2 f3 f4
  refine (HB.out _).mono ?_
  rintro x w4 ⟨U1, V1, rfl, hU1, hV1, b4⟩
  have B5 := below_next B4 b4
  have HUV := Lib.hid (And.intro hU1 hV1)
  obtain ⟨⟨f0, f1, f2, f3, f4⟩, d0, d1, d2⟩ := HC.out _ B5
  clear hU1 hV1 B4 b4
  go_wp2_with fail
  clear f0 f1 f2 f3 f4 d0 d1 d2
  refine (HRI.out _).mono ?_
  rintro x w5 ⟨rfl, b5⟩
  have B6 := below_next B5 b5
  obtain ⟨⟨f0, f1, f2, f3, f4⟩, d0, d1, d2⟩ := HC.out _ B6
  clear B5 b5
  cases rr
  · have e1 : (Fl.mk fk fK fT fl fm).from = [0] := by unfold Fl.from; rw [HNM.out.2.2.1]; rfl
    have e2 : (Fl.mk fk fK fT fl fm).upto = [0] := by unfold Fl.upto; rw [HNM.out.2.2.1]; rfl
    obtain rfl : U1 = ⟨#[0]⟩ := nums_inj (HUV.out.1.trans (e1.trans one_zero.symm))
    obtain rfl : V1 = ⟨#[0]⟩ := nums_inj (HUV.out.2.trans (e2.trans one_zero.symm))
    have c1 : ((⟨#[0]⟩ : ByteArray).toList == (⟨#[0]⟩ : ByteArray).toList) = true := by simp
    clear e1 e2 f0 f1 f2 f3 f4 d0 d1 d2
    go_wp2_with fail
    refine (works_any _).mono ?_
    rintro x w6 ⟨rfl, b6⟩
    go_wp2_with fail
    go_ret
    exact ⟨rfl, HBE.out.trans ((below_next B6 b6).mono HBE.out.size)⟩
  · have hfit := fits (Fl.mk fk fK fT fl fm) (Pn.mk k s e) HFK.out.1 HPO.out (Nat.le_trans HSZ.out.1 (by omega)) HNM.out.2.2.1
    rw [HNM.out.2.2.2, HNM.out.1, HNM.out.2.1] at hfit
    unfold within at hfit
    have a1 : Op.bytesLess U.toList U1.toList = decide (Ky.cmp R (Fl.mk fk fK fT fl fm).from = -1) := by rw [text_cmp, HU.out.1, HUV.out.1]
    have a2 : Op.bytesLess U.toList V1.toList = decide (Ky.cmp R (Fl.mk fk fK fT fl fm).upto = -1) := by rw [text_cmp, HU.out.1, HUV.out.2]
    have a3 : V1.toList.isEmpty = decide ((Fl.mk fk fK fT fl fm).upto = []) := by
      rw [← HUV.out.2, ByteArray.toList_eq]
      unfold nums
      cases V1.data.toList <;> simp
    rw [← a1, ← a2, ← a3] at hfit
    have HFT := Lib.hid hfit
    clear a1 a2 a3 hfit
    go_wp2_with fail
    clear f0 f1 f2 f3 f4 d0 d1 d2
    refine (HHAS.out _).mono ?_
    rintro x w6 ⟨rfl, b6⟩
    cases hx1 : Op.bytesLess U.toList U1.toList
    · cases hx2 : V1.toList.isEmpty
      · have n1 : (V1.toList == []) = false := by cases h : V1.toList <;> simp_all
        cases hx3 : Op.bytesLess U.toList V1.toList
        · have ehh := HFT.out
          rw [hx1, hx2, hx3] at ehh
          obtain rfl : hh = false := ehh
          clear hx2
          go_wp2_with fail
          refine (works_any _).mono ?_
          rintro x w7 ⟨rfl, b7⟩
          go_wp2_with fail
          go_ret
          exact ⟨rfl, HBE.out.trans ((below_next (below_next B6 b6) b7).mono HBE.out.size)⟩
        · have ehh := HFT.out
          rw [hx1, hx2, hx3] at ehh
          obtain rfl : hh = true := ehh
          clear hx2
          go_wp2_with fail
          refine (works_any _).mono ?_
          rintro x w7 ⟨rfl, b7⟩
          go_wp2_with fail
          go_ret
          exact ⟨rfl, HBE.out.trans ((below_next (below_next B6 b6) b7).mono HBE.out.size)⟩
      · have n1 : (V1.toList == []) = true := by cases h : V1.toList <;> simp_all
        have ehh := HFT.out
        rw [hx1, hx2] at ehh
        obtain rfl : hh = true := ehh
        clear hx2
        go_wp2_with fail
        refine (works_any _).mono ?_
        rintro x w7 ⟨rfl, b7⟩
        go_wp2_with fail
        go_ret
        exact ⟨rfl, HBE.out.trans ((below_next (below_next B6 b6) b7).mono HBE.out.size)⟩
    · have ehh := HFT.out
      rw [hx1] at ehh
      obtain rfl : hh = false := ehh
      go_wp2_with fail
      refine (works_any _).mono ?_
      rintro x w7 ⟨rfl, b7⟩
      go_wp2_with fail
      go_ret
      exact ⟨rfl, HBE.out.trans ((below_next (below_next B6 b6) b7).mono HBE.out.size)⟩
end Go.Proofs.Ytponelbfddfliaa
