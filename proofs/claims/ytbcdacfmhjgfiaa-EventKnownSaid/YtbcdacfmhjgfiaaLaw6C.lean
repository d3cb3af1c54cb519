/- EventBack, walked. -/
import Derived.Test.YtbcdacfmhjgfiaaLaw6B
namespace Go.Proofs.Ytbcdacfmhjgfiaa
open Go.ChangeShapes Go.WideShapes Go.ChangeAt Go.RowKit

/-- Are the first j operations right? -/
def wl (l : List Evo) (j : Nat) : Bool := (l.take j).all (fun o => Ev.right o == 0)
theorem wl_zero (l : List Evo) : wl l 0 = true := rfl
theorem wl_step {l : List Evo} {j : Nat} (h : j < l.length) : wl l (j + 1) = (wl l j && (Ev.right (l.getD j default) == 0)) := by
  unfold wl
  rw [esnoc_at l j h, List.all_append]
  simp
theorem wl_full (l : List Evo) : wl l l.length = (Ev.allE l == 0) := by
  unfold wl
  rw [List.take_length, Bool.eq_iff_iff, beq_iff_eq, Ev.allE_zero]
  simp
theorem getD_mem {l : List Evo} {j : Nat} (h : j < l.length) : l.getD j default ∈ l := by
  rw [List.getD_eq_getElem?_getD, List.getElem?_eq_getElem h]
  exact List.getElem_mem h
theorem Bytes.headC {w : World} {B n c j : Nat} {A : Option Addr} {l : List Nat} (h : Bytes w B A n l) (hj : j ≤ n) (_ : n ≤ c) : Bytes w B A j (l.take j) := h.head hj
theorem heads_ne {a b : Evo} (ha : Ev.right a = 0) (hb : Ev.right b = 0) (ka : Ev.ok a) (kb : Ev.ok b) (hne : a ≠ b) (_hl : (Ev.enc a).length ≤ (Ev.enc b).length) : (textOf ((Ev.enc b).take (Ev.enc a).length)).toList ≠ (textOf (Ev.enc a)).toList := by
  intro h
  have h1 := toList_inj h
  have h2 : (Ev.enc b).take (Ev.enc a).length = Ev.enc a := by
    have e1 := nums_textOf (l := (Ev.enc b).take (Ev.enc a).length) (fun x hx => Ev.enc_lt hb x (List.mem_of_mem_take hx))
    have e2 := nums_textOf (l := Ev.enc a) (Ev.enc_lt ha)
    rw [h1, e2] at e1
    exact e1.symm
  exact hne (Ev.enc_prefix ha hb ka kb (rest := (Ev.enc b).drop (Ev.enc a).length) (by
    have := List.take_append_drop (Ev.enc a).length (Ev.enc b)
    rw [h2] at this
    exact this.symm))
set_option maxRecDepth 100000 in
set_option maxHeartbeats 8000000 in
theorem eventBack_any (n c B n2 c2 : Nat) (A A2 : Option Addr) (l : List Evo) (b : List Nat) (w : World) (h : EvIn w B A n l) (hok : ∀ o ∈ l, Ev.ok o) (h2 : Bytes w B A2 n2 b) (hB : B ≤ w.heap.size) (hn : n ≤ 9223372036854775807) (hn2 : n2 ≤ 9223372036854775807) :
    Calls Try.prog 5 #[.slice A n c, .slice A2 n2 c2] w (LawP w) := by
  have HP := Lib.hid (And.intro h (And.intro hB (And.intro h2 hok)))
  clear h hB h2 hok
  go_enter Try.func5, Try.ntmps5
  by_cases h20 : 20 < n
  · have i20 : (20 : Int) < n := by omega
    go_wp2_with fail
    refine (works_any _).mono ?_
    rintro e w1 ⟨rfl, b1⟩
    have HB1 := Lib.hid b1
    clear b1
    go_wp2_with fail
    go_ret
    exact ⟨rfl, HB1.out⟩
  by_cases h500 : 500 < n2
  · have i20 : ¬ (20 : Int) < n := by omega
    have i500 : (500 : Int) < n2 := by omega
    go_wp2_with fail
    refine (works_any _).mono ?_
    rintro e w1 ⟨rfl, b1⟩
    have HB1 := Lib.hid b1
    clear b1
    go_wp2_with fail
    go_ret
    exact ⟨rfl, HB1.out⟩
  have i20 : ¬ (20 : Int) < n := by omega
  have i500 : ¬ (500 : Int) < n2 := by omega
  go_wp2_with fail
  refine (pPutAll_any n c B A l w HP.out.1 HP.out.2.1 (by omega)).mono ?_
  rintro e w1 ⟨A3, c3, rfl, ho3, b1⟩
  have hfb : (Ev.allB l).length ≤ 2000 ∧ ∀ x ∈ Ev.allB l, x < 256 := by
    unfold Ev.allB
    split
    · rename_i hE
      have := Ev.flat_len ((Ev.allE_zero l).1 hE)
      rw [HP.out.1.1] at this
      refine ⟨by omega, ?_⟩
      intro x hx
      unfold Ev.flat at hx
      obtain ⟨o, ho, hx⟩ := List.mem_flatMap.1 hx
      exact Ev.enc_lt ((Ev.allE_zero l).1 hE o ho) x hx
    · simp
  obtain ⟨L, hL⟩ : ∃ L, Ev.allB l = L := ⟨_, rfl⟩
  obtain ⟨E, hE⟩ : ∃ E, Ev.allE l = E := ⟨_, rfl⟩
  rw [hL] at hfb ho3 ⊢
  rw [hE]
  have HLE := Lib.hid (And.intro hL hE)
  obtain ⟨m, hm⟩ : ∃ m, L.length = m := ⟨_, rfl⟩
  rw [hm] at hfb ho3 ⊢
  have D1 := Lib.hid (And.intro (Bytes.of_own ho3 hfb.2) (And.intro b1 (And.intro (HP.out.1.below b1 HP.out.2.1) (HP.out.2.2.1.below b1 HP.out.2.1))))
  have hm2 := hfb.1
  have HM := Lib.hid hm
  have HQ : Hid (B ≤ w1.heap.size) := Lib.hid (Nat.le_trans HP.out.2.1 b1.size)
  clear ho3 b1 hL hE hfb hm
  go_wp2_with fail
  go_loopw [7, 8] (fun v i wr => ∃ j : Nat, j ≤ n ∧ i = .int .i64 (j : Int) ∧ v = .bool (wl l j) ∧ Below w1.heap.size w1 wr) (fun _ i _ => n - (intOf i).toNat)
  case atStart => exact ⟨0, by omega, rfl, rfl, Below.refl _ _⟩
  case round =>
    obtain ⟨j, hj, rfl, rfl, hx⟩ := hrel
    have HX := Lib.hid hx
    clear hx
    by_cases hjn : j < n
    · obtain ⟨bb, off, rfl, hb, hc⟩ := D1.out.2.2.1.at_ hjn
      obtain ⟨o, ho⟩ : ∃ o, l.getD j default = o := ⟨_, rfl⟩
      obtain ⟨o0, ho0⟩ : ∃ o, l.getD 0 default = o := ⟨_, rfl⟩
      have cx := hc o ho
      have cy : w1.cell? ⟨bb, off, none⟩ = some (.int .u8 (o0.k : Int)) ∧ w1.cell? ⟨bb, off + 1, none⟩ = some (.string o0.s) ∧ w1.cell? ⟨bb, off + 2, none⟩ = some (.int .i64 o0.t) ∧ w1.cell? ⟨bb, off + 3, none⟩ = some (.int .i64 o0.v) := by
        obtain ⟨bb', off', he, _, hc'⟩ := D1.out.2.2.1.at_ (show 0 < n by omega)
        injection he with he
        injection he with e1 e2
        subst e1 e2
        have := hc' o0 ho0
        simpa using this
      have hmem : Ev.ok o ∧ Ev.ok o0 := ⟨HP.out.2.2.2 o (ho ▸ getD_mem (by rw [HP.out.1.1]; exact hjn)), HP.out.2.2.2 o0 (ho0 ▸ getD_mem (by rw [HP.out.1.1]; omega))⟩
      have hst := wl_step (l := l) (j := j) (by rw [HP.out.1.1]; exact hjn)
      rw [ho] at hst
      have HST := Lib.hid (And.intro hst hmem)
      have hz : bb < w1.heap.size := Nat.lt_of_lt_of_le hb HQ.out
      have P : Hid (∀ W, Below w1.heap.size w1 W → (W.cell? ⟨bb, off + j * 4, none⟩ = some (.int .u8 (o.k : Int)) ∧ W.cell? ⟨bb, off + j * 4 + 1, none⟩ = some (.string o.s) ∧ W.cell? ⟨bb, off + j * 4 + 2, none⟩ = some (.int .i64 o.t) ∧ W.cell? ⟨bb, off + j * 4 + 3, none⟩ = some (.int .i64 o.v)) ∧ W.cell? ⟨bb, off, none⟩ = some (.int .u8 (o0.k : Int)) ∧ W.cell? ⟨bb, off + 1, none⟩ = some (.string o0.s) ∧ W.cell? ⟨bb, off + 2, none⟩ = some (.int .i64 o0.t) ∧ W.cell? ⟨bb, off + 3, none⟩ = some (.int .i64 o0.v)) := Lib.hid fun W hW =>
        ⟨⟨(hW.cell (p := ⟨bb, _, none⟩) hz).trans cx.1, (hW.cell (p := ⟨bb, _, none⟩) hz).trans cx.2.1, (hW.cell (p := ⟨bb, _, none⟩) hz).trans cx.2.2.1, (hW.cell (p := ⟨bb, _, none⟩) hz).trans cx.2.2.2⟩, (hW.cell (p := ⟨bb, _, none⟩) hz).trans cy.1, (hW.cell (p := ⟨bb, _, none⟩) hz).trans cy.2.1, (hW.cell (p := ⟨bb, _, none⟩) hz).trans cy.2.2.1, (hW.cell (p := ⟨bb, _, none⟩) hz).trans cy.2.2.2⟩
      have i1 : (0 : Int) ≤ j := by omega
      have i2 : (j : Int) < n := by omega
      have i3 : (0 : Int) < n := by omega
      have i4 : 0 < n := by omega
      obtain ⟨wb, hwb⟩ : ∃ b, wl l j = b := ⟨_, rfl⟩
      rw [hwb]
      have HWB := Lib.hid hwb
      clear hc ho ho0 cx cy hmem hst hwb
      obtain ⟨⟨x0, x1, x2, x3⟩, -⟩ := P.out wr HX.out
      by_cases h300 : 300 < o.s.size
      · have i300 : (300 : Int) < o.s.size := by omega
        go_wp2_with fail
        refine (works_any _).mono ?_
        rintro e v1 ⟨rfl, b1⟩
        have HB1 := Lib.hid (D1.out.2.1.trans ((below_next HX.out b1).mono D1.out.2.1.size))
        clear b1
        go_wp2_with fail
        go_ret
        exact ⟨rfl, HB1.out⟩
      · have i300 : ¬ (300 : Int) < o.s.size := by omega
        go_wp2_with fail
        clear x0 x1 x2 x3
        refine (pPut6_any o wr).mono ?_
        rintro e v1 ⟨Aa, ca, rfl, oa, ba⟩
        have G1 := Lib.hid (below_next HX.out ba)
        have OA := Lib.hid (own_lower oa HX.out.size)
        clear oa ba
        obtain ⟨r, hr⟩ : ∃ r, Ev.right o = r := ⟨_, rfl⟩
        have HC1 := fun W => pRight6_any o W
        rw [hr] at HC1
        rw [hr]
        have HC1' := Lib.hid HC1
        have HR := Lib.hid hr
        clear HC1 hr
        go_upto_region 11 with (fail)
        go_cut [7] (fun v wx => v = .bool (wb && (r == 0)) ∧ Below v1.heap.size v1 wx)
        case first =>
          cases wb
          · go_wp2_with fail
            go_meet
            case rel => exact ⟨rfl, Below.refl _ _⟩
          · obtain ⟨⟨x0, x1, x2, x3⟩, -⟩ := P.out v1 G1.out
            go_wp2_with fail
            refine (HC1'.out _).mono ?_
            rintro e v2 ⟨rfl, b2⟩
            go_wp2_with fail
            go_meet
            case rel => exact ⟨rfl, b2⟩
        case rest =>
        obtain ⟨rfl, hx⟩ := hcut
        have HC := Lib.hid (below_next G1.out hx)
        have OA2 := Lib.hid (own_below OA.out hx)
        clear hx
        obtain ⟨⟨x0, x1, x2, x3⟩, -⟩ := P.out wc HC.out
        go_wp2_with fail
        clear x0 x1 x2 x3
        refine (HC1'.out _).mono ?_
        rintro e v2 ⟨rfl, b2⟩
        have G2 := Lib.hid (below_next HC.out b2)
        have OA3 := Lib.hid (own_below OA2.out b2)
        clear b2 OA OA2 HC
        by_cases hr0 : r = 0
        · subst hr0
          have hst := HST.out.1
          rw [HR.out, HWB.out, show ((0 : Int) == 0) = true from rfl, Bool.and_true] at hst
          rw [show ((0 : Int) == 0) = true from rfl, Bool.and_true]
          have HS1 := Lib.hid hst
          have hbo : Ev.bytes o = Ev.enc o := if_pos HR.out
          have oa := OA3.out
          rw [hbo] at oa ⊢
          have hel := Ev.enc_len HR.out
          obtain ⟨q, hq⟩ : ∃ q, (Ev.enc o).length = q := ⟨_, rfl⟩
          rw [hq] at oa hel ⊢
          have OA4 := Lib.hid (And.intro oa (And.intro (Ev.enc_lt HR.out) hq))
          have hps := Lib.hid (Ev.ps_enc HR.out HST.out.2.1)
          clear hst hbo oa hq OA3
          go_wp2_with fail
          refine (parse_let hps.out (Bytes.of_own OA4.out.1 OA4.out.2.1) (Nat.le_refl _) (by omega)).mono ?_
          rintro e v3 ⟨rfl, b3⟩
          have S3 := (Held.start v2).step b3 |>.new (opC o) 26
          clear b3
          go_upto_region 16 with (fail)
          obtain ⟨W3, hW⟩ : ∃ W, v3.alloc (.cells (opC o) 26) = W := ⟨_, rfl⟩
          rw [hW] at S3 ⊢
          have S3' := Lib.hid S3
          have G3 := Lib.hid (G2.out.trans (S3.1.mono G2.out.size))
          clear hW S3
          have hpp := P.out W3.drew G3.out.drew
          have kk := S3'.out.at_ (List.mem_cons_self ..)
          have hkk : W3.drew.cell? ⟨v3.heap.size, 0, none⟩ = some (.int .u8 (o.k : Int)) ∧ W3.drew.cell? ⟨v3.heap.size, 1, none⟩ = some (.string o.s) ∧ W3.drew.cell? ⟨v3.heap.size, 2, none⟩ = some (.int .i64 o.t) ∧ W3.drew.cell? ⟨v3.heap.size, 3, none⟩ = some (.int .i64 o.v) := ⟨kk.cell 0, kk.cell 1, kk.cell 2, kk.cell 3⟩
          have HPP := Lib.hid (And.intro hpp hkk)
          have E3 : Hid (Below W3.heap.size W3 W3.drew) := Lib.hid (Below.refl _ _).drew
          have G3d := Lib.hid G3.out.drew
          clear hpp kk hkk
          have q1 : ∀ W, (Op.equalIn 10000 26 (opA o) (opA o)).run Try.prog W = .ok true W := fun W => by
            rw [op_equal o o W, (evq_iff o o).2 rfl]
          have g1 := op_guard
          go_wp2_with fail
          go_region_held3 (fun W => ((W.cell? ⟨bb, off + j * 4, none⟩ = some (.int .u8 (o.k : Int)) ∧ W.cell? ⟨bb, off + j * 4 + 1, none⟩ = some (.string o.s) ∧ W.cell? ⟨bb, off + j * 4 + 2, none⟩ = some (.int .i64 o.t) ∧ W.cell? ⟨bb, off + j * 4 + 3, none⟩ = some (.int .i64 o.v)) ∧ W.cell? ⟨bb, off, none⟩ = some (.int .u8 (o0.k : Int)) ∧ W.cell? ⟨bb, off + 1, none⟩ = some (.string o0.s) ∧ W.cell? ⟨bb, off + 2, none⟩ = some (.int .i64 o0.t) ∧ W.cell? ⟨bb, off + 3, none⟩ = some (.int .i64 o0.v)) ∧ W.cell? ⟨v3.heap.size, 0, none⟩ = some (.int .u8 (o.k : Int)) ∧ W.cell? ⟨v3.heap.size, 1, none⟩ = some (.string o.s) ∧ W.cell? ⟨v3.heap.size, 2, none⟩ = some (.int .i64 o.t) ∧ W.cell? ⟨v3.heap.size, 3, none⟩ = some (.int .i64 o.v)) (first | with_reducible exact HPP.out | fail) (fail)
          clear q1
          obtain ⟨y0, y1, y2, y3⟩ := HPP.out.1.2
          have q2 : ∀ W, (Op.equalIn 10000 26 (opA o0) (opA o)).run Try.prog W = .ok (evq o0 o) W := fun W => op_equal o0 o W
          go_wp2_with fail
          clear y0 y1 y2 y3
          refine (pPut6_any o0 _).mono ?_
          rintro e v4 ⟨A4, c4, rfl, o4, b4⟩
          have G4 := Lib.hid (below_next G3d.out b4)
          have O4 := Lib.hid o4
          have OA5 := Lib.hid (own_below (own_below (own_below OA4.out.1 S3'.out.1) (Below.refl _ _).drew) b4)
          clear o4 b4 q2
          obtain ⟨r1, hr1⟩ : ∃ r, Ev.right o0 = r := ⟨_, rfl⟩
          obtain ⟨K0, hK0⟩ : ∃ K, Ev.bytes o0 = K := ⟨_, rfl⟩
          obtain ⟨q0, hq0⟩ : ∃ q, K0.length = q := ⟨_, rfl⟩
          rw [hK0] at O4
          rw [hq0] at O4
          rw [hr1, hK0, hq0]
          have HK0 := Lib.hid (And.intro hK0 (And.intro hq0 hr1))
          clear hr1 hK0 hq0
          have HPD := Lib.hid (P.out v4.drew G4.out.drew)
          have HPV := Lib.hid (P.out v4 G4.out)
          go_upto_region 19 with (fail)
          go_cut [128] (fun v wx => v = .bool false ∧ Below v4.heap.size v4 wx)
          case first =>
            by_cases hc1 : r1 = 0
            · subst hc1
              by_cases hc2 : o = o0
              · subst hc2
                have q2 : ∀ W, (Op.equalIn 10000 26 (opA o) (opA o)).run Try.prog W = .ok true W := fun W => by
                  rw [op_equal o o W, (evq_iff o o).2 rfl]
                obtain ⟨⟨x0, x1, x2, x3⟩, y0, y1, y2, y3⟩ := HPV.out
                go_wp2_with fail
                go_quiet (fail)
                go_wp2_with fail
                go_meet
                case rel => exact ⟨rfl, below_drewN (Below.refl _ _) _⟩
              · have q2 : ∀ W, (Op.equalIn 10000 26 (opA o0) (opA o)).run Try.prog W = .ok false W := fun W => by
                  rw [op_equal o0 o W, evq_no (fun h => hc2 h.symm)]
                by_cases hc3 : q0 ≤ q
                · have hc3' : (q0 : Int) ≤ q := by omega
                  have hc3d : decide ((q0 : Int) ≤ q) = true := decide_eq_true hc3'
                  have hc3e : decide (q0 ≤ q) = true := decide_eq_true hc3
                  have hK : K0 = Ev.enc o0 := by rw [← HK0.out.1]; exact if_pos HK0.out.2.2
                  have hne := heads_ne HK0.out.2.2 HR.out HST.out.2.2 HST.out.2.1 (fun h => hc2 h.symm) (by rw [← hK, HK0.out.2.1, OA4.out.2.2]; exact hc3)
                  rw [← hK, HK0.out.2.1] at hne
                  have hby1 := Bytes.of_own OA5.out OA4.out.2.1
                  have hby2 := Bytes.of_own O4.out (by rw [hK]; exact Ev.enc_lt HK0.out.2.2)
                  have hcap := own_cap OA5.out
                  obtain ⟨iu, hiu, -, hiz, -⟩ := info_parts Try.info5
                  have hcut := run_cut_h (P := Try.prog) 29 5 iu Try.underlying29 hiu Aa q ca q0 (by omega)
                  have hcv1 := (conv_bytes (c := ca) ((hby1.head hc3).drew)).2.2
                  have hcv2 := (conv_bytes (c := c4) (hby2.drew)).2.2
                  generalize hT1 : textOf ((Ev.enc o).take q0) = T1 at hcv1 hne
                  generalize hT2 : textOf K0 = T2 at hcv2 hne
                  have hneB : (T1.toList == T2.toList) = false := by rw [beq_eq_false_iff_ne]; exact fun h => hne h
                  have hneP : ¬ T1.toList = T2.toList := fun h => hne h
                  have HCV := Lib.hid (And.intro HPD.out (And.intro hcv1 hcv2))
                  clear hT1 hT2 hcv1 hcv2 hby1 hby2 hne hK hiu hiz hcap
                  go_wp2_with fail
                  go_region_held3 (fun W => ((W.cell? ⟨bb, off + j * 4, none⟩ = some (.int .u8 (o.k : Int)) ∧ W.cell? ⟨bb, off + j * 4 + 1, none⟩ = some (.string o.s) ∧ W.cell? ⟨bb, off + j * 4 + 2, none⟩ = some (.int .i64 o.t) ∧ W.cell? ⟨bb, off + j * 4 + 3, none⟩ = some (.int .i64 o.v)) ∧ W.cell? ⟨bb, off, none⟩ = some (.int .u8 (o0.k : Int)) ∧ W.cell? ⟨bb, off + 1, none⟩ = some (.string o0.s) ∧ W.cell? ⟨bb, off + 2, none⟩ = some (.int .i64 o0.t) ∧ W.cell? ⟨bb, off + 3, none⟩ = some (.int .i64 o0.v)) ∧ (convert 29 9 (.slice Aa q0 ca)).run Try.prog W = .ok (.string T1) W ∧ (convert 29 9 (.slice A4 q0 c4)).run Try.prog W = .ok (.string T2) W) (first | with_reducible exact HCV.out | fail) (fail)
                  go_wp2_with fail
                  go_meet
                  case rel => exact ⟨rfl, (Below.refl _ _).drew⟩
                · have hc3' : ¬ (q0 : Int) ≤ q := by omega
                  have hc3d : decide ((q0 : Int) ≤ q) = false := decide_eq_false hc3'
                  have hc3e : decide (q0 ≤ q) = false := decide_eq_false hc3
                  obtain ⟨⟨x0, x1, x2, x3⟩, y0, y1, y2, y3⟩ := HPV.out
                  go_wp2_with fail
                  go_quiet (fail)
                  go_wp2_with fail
                  go_meet
                  case rel => exact ⟨rfl, below_drewN (Below.refl _ _) _⟩
            · have e0 : (r1 == 0) = false := by rw [beq_eq_false_iff_ne]; exact hc1
              obtain ⟨⟨x0, x1, x2, x3⟩, y0, y1, y2, y3⟩ := HPV.out
              go_wp2_with fail
              go_quiet (fail)
              go_wp2_with fail
              go_meet
              case rel => exact ⟨rfl, below_drewN (Below.refl _ _) _⟩
          case rest =>
          obtain ⟨rfl, hx⟩ := hcut
          have G5 := Lib.hid (below_next G4.out hx)
          clear hx
          go_wp2_with fail
          exact ⟨⟨j + 1, by omega, by go_num, by rw [HS1.out], G5.out⟩, by simp [intOf]; omega⟩
        · have hst := HST.out.1
          have e0 : (r == 0) = false := by rw [beq_eq_false_iff_ne]; exact hr0
          have e1 : (r != 0) = true := by rw [bne_iff_ne]; exact hr0
          rw [HR.out, e0, Bool.and_false] at hst
          rw [e0, Bool.and_false]
          have HS1 := Lib.hid hst
          clear hst
          go_wp2_with fail
          exact ⟨⟨j + 1, by omega, by go_num, by rw [HS1.out], G2.out⟩, by simp [intOf]; omega⟩
    · obtain rfl : n = j := by omega
      have hwf := wl_full l
      rw [HP.out.1.1, HLE.out.2] at hwf
      by_cases hE : E = 0
      · subst hE
        rw [show ((0 : Int) == 0) = true from rfl] at hwf
        rw [hwf]
        have hall := (Ev.allE_zero l).1 HLE.out.2
        have hLf : L = Ev.flat l := by rw [← HLE.out.1]; exact if_pos HLE.out.2
        have hpa : Ev.psAll L = (0, l) := by rw [hLf]; exact Ev.psAll_flat hall HP.out.2.2.2
        have HPA := Lib.hid (And.intro hpa HP.out.1.1)
        clear hwf hall hLf hpa
        go_wp2_with fail
        refine (pParseAll_any m c3 _ A3 L wr (D1.out.1.below HX.out (Nat.le_refl _)) HX.out.size (by omega)).mono ?_
        rw [HPA.out.1]
        rintro e v1 ⟨A4, c4, rfl, ho4, b4⟩
        dsimp only at ho4 ⊢
        rw [HPA.out.2] at ho4 ⊢
        have X4 := Lib.hid (EvIn.of_own ho4)
        have HX1 := Lib.hid (below_next HX.out b4)
        clear ho4 b4
        go_wp2_with fail
        go_loopw [17] (fun i wx => ∃ j : Nat, j ≤ n ∧ i = .int .i64 (j : Int) ∧ Below v1.heap.size v1 wx) (fun i _ => n - (intOf i).toNat)
        case atStart => exact ⟨0, by omega, rfl, Below.refl _ _⟩
        case round =>
          obtain ⟨j, hj, rfl, hx⟩ := hrel
          have HY := Lib.hid hx
          clear hx
          by_cases hjn : j < n
          · obtain ⟨b1, off, rfl, hb, hc⟩ := X4.out.at_ hjn
            obtain ⟨b2, off', rfl, hb', hc'⟩ := D1.out.2.2.1.at_ hjn
            obtain ⟨x, hx⟩ : ∃ o, l.getD j default = o := ⟨_, rfl⟩
            have cx := hc x hx
            have cy := hc' x hx
            have hz' : b2 < w1.heap.size := Nat.lt_of_lt_of_le hb' HQ.out
            have hY2 := HX1.out.trans (HY.out.mono HX1.out.size)
            have d0 := (HY.out.cell (p := ⟨b1, _, none⟩) hb).trans cx.1
            have d1 := (HY.out.cell (p := ⟨b1, _, none⟩) hb).trans cx.2.1
            have d2 := (HY.out.cell (p := ⟨b1, _, none⟩) hb).trans cx.2.2.1
            have d3 := (HY.out.cell (p := ⟨b1, _, none⟩) hb).trans cx.2.2.2
            have e0 := (hY2.cell (p := ⟨b2, _, none⟩) hz').trans cy.1
            have e1 := (hY2.cell (p := ⟨b2, _, none⟩) hz').trans cy.2.1
            have e2 := (hY2.cell (p := ⟨b2, _, none⟩) hz').trans cy.2.2.1
            have e3 := (hY2.cell (p := ⟨b2, _, none⟩) hz').trans cy.2.2.2
            have i1 : (0 : Int) ≤ j := by omega
            have i2 : (j : Int) < n := by omega
            have q1 : ∀ W, (Op.equalIn 10000 26 (opA x) (opA x)).run Try.prog W = .ok true W := fun W => by
              rw [op_equal x x W, (evq_iff x x).2 rfl]
            have g1 := op_guard
            clear hc hc' cx cy hx hY2
            go_wp2_with fail
            go_quiet (fail)
            go_wp2_with fail
            exact ⟨⟨j + 1, by omega, by go_num, below_drewN HY.out _⟩, by simp [intOf]; omega⟩
          · have i2 : ¬ (j : Int) < n := by omega
            have HZ := Lib.hid (HX1.out.trans (HY.out.mono HX1.out.size))
            clear HY
            go_wp2_with fail
            have hby := (D1.out.2.2.2.below HZ.out HQ.out)
            have hps : ∃ r o, Ev.ps b = (r, o) := ⟨_, _, rfl⟩
            obtain ⟨r, o, hps⟩ := hps
            refine (parse_let hps hby (Nat.le_trans HQ.out HZ.out.size) (by omega)).mono ?_
            rintro e t1 ⟨rfl, b1⟩
            have T1 := ((Held.start w1).step HZ.out).step b1 |>.new (opC o) 26
            have HPS := Lib.hid hps
            clear b1 hps hby
            go_upto_region 32 with (fail)
            obtain ⟨V1, hW⟩ : ∃ W, t1.alloc (.cells (opC o) 26) = W := ⟨_, rfl⟩
            rw [hW] at T1 ⊢
            have T1' := Lib.hid T1
            clear hW T1
            by_cases hr0 : r = 0
            · subst hr0
              have hbk := Ev.ps_back (l := b) HP.out.2.2.1.2.1 (by rw [HPS.out])
              rw [HPS.out] at hbk
              dsimp only at hbk
              have HBK := Lib.hid hbk
              have hbo : Ev.bytes o = b := by rw [← hbk.2.1]; exact if_pos hbk.1
              have HPT := Lib.hid (fun W => put_let hbo hbk.1 W)
              have HRT := fun W => pRight6_any o W
              rw [hbk.1] at HRT
              have HRT' := Lib.hid HRT
              have hbl := HP.out.2.2.1.1
              have HBL := Lib.hid hbl
              clear hbk hbo hbl HRT
              have kk := T1'.out.at_ (List.mem_cons_self ..)
              obtain ⟨⟨c0, c1, c2', c3'⟩, -⟩ := cells4 kk
              clear kk
              go_wp2_with fail
              clear c0 c1 c2' c3'
              refine (HPT.out _).mono ?_
              rintro e t2 ⟨A6, c6, rfl, o6, b6⟩
              have T2 := T1'.out.step b6
              have T2' := Lib.hid T2
              rw [HBL.out] at o6 ⊢
              have O6 := Lib.hid o6
              have kk := T2.at_ (List.mem_cons_self ..)
              obtain ⟨⟨c0, c1, c2', c3'⟩, -⟩ := cells4 kk
              clear T2 b6 o6 kk
              go_wp2_with fail
              clear c0 c1 c2' c3'
              refine (HRT'.out _).mono ?_
              rintro e t3 ⟨rfl, b7⟩
              have T3 := Lib.hid (T2'.out.step b7)
              have O7 := Lib.hid (own_below O6.out b7)
              clear b7
              go_wp2_with fail
              refine (same_yes n2 c6 n2 c2 t3.heap.size A6 A2 b t3 (Bytes.of_own O7.out HP.out.2.2.1.2.1) ((D1.out.2.2.2.below T3.out.1 HQ.out).more (Nat.le_trans HQ.out T3.out.1.size)) (by omega)).mono ?_
              rintro e t4 ⟨rfl, m4, rfl⟩
              go_wp2_with fail
              refine (works_any _).mono ?_
              rintro e t5 ⟨rfl, b9⟩
              have HF := Lib.hid (D1.out.2.1.trans ((below_next (below_drewN T3.out.1 m4) b9).mono D1.out.2.1.size))
              clear b9
              go_wp2_with fail
              go_ret
              exact ⟨rfl, HF.out⟩
            · have hno : o = Ev.none' := by
                have := Ev.ps_none (l := b) (by rw [HPS.out]; exact hr0)
                rw [HPS.out] at this
                exact this
              subst hno
              have i5 : (r != 0) = true := by rw [bne_iff_ne]; exact hr0
              have i6 : (r == 0) = false := by rw [beq_eq_false_iff_ne]; exact hr0
              have q1 : ∀ W, (Op.equalIn 10000 26 (.agg #[.int .u8 0, .string ⟨#[]⟩, .int .i64 0, .int .i64 0]) (.agg #[.int .u8 0, .string ⟨#[]⟩, .int .i64 0, .int .i64 0])).run Try.prog W = .ok true W := fun W => by
                have := op_equal Ev.none' Ev.none' W
                rw [(evq_iff Ev.none' Ev.none').2 rfl] at this
                exact this
              have g1 := op_guard
              have kk := T1'.out.at_ (List.mem_cons_self ..)
              have c0 : V1.cell? ⟨t1.heap.size, 0, none⟩ = some (.int .u8 0) := kk.cell 0
              have c1 : V1.cell? ⟨t1.heap.size, 1, none⟩ = some (.string ⟨#[]⟩) := kk.cell 1
              have c2' : V1.cell? ⟨t1.heap.size, 2, none⟩ = some (.int .i64 0) := kk.cell 2
              have c3' : V1.cell? ⟨t1.heap.size, 3, none⟩ = some (.int .i64 0) := kk.cell 3
              clear kk
              go_wp2_with fail
              refine (works_any _).mono ?_
              rintro e t5 ⟨rfl, b9⟩
              have HF := Lib.hid (D1.out.2.1.trans ((below_next T1'.out.1 b9).mono D1.out.2.1.size))
              clear b9
              go_wp2_with fail
              go_ret
              exact ⟨rfl, HF.out⟩
      · have e0 : (E == 0) = false := by rw [beq_eq_false_iff_ne]; exact hE
        rw [e0] at hwf
        rw [hwf]
        have hLf : L = [] := by rw [← HLE.out.1]; exact if_neg (by rw [HLE.out.2]; exact hE)
        have hm0 : m = 0 := by rw [← HM.out, hLf]; rfl
        have hpa : Ev.psAll L = (0, []) := by rw [hLf]; rfl
        have HPA := Lib.hid hpa
        clear hwf hLf hpa hm0
        go_wp2_with fail
        refine (pParseAll_any m c3 _ A3 L wr (D1.out.1.below HX.out (Nat.le_refl _)) HX.out.size (by omega)).mono ?_
        rw [HPA.out]
        rintro e v1 ⟨A4, c4, rfl, ho4, b4⟩
        have HX1 := Lib.hid (below_next HX.out b4)
        clear ho4 b4
        dsimp only
        go_wp2_with fail
        go_loopw [17] (fun i wx => i = .int .i64 0 ∧ v1 = wx) (fun _ _ => 0)
        case atStart => exact ⟨rfl, rfl⟩
        case round =>
          obtain ⟨rfl, rfl⟩ := hrel
          have HZ := HX1
          go_wp2_with fail
          have hby := (D1.out.2.2.2.below HZ.out HQ.out)
          have hps : ∃ r o, Ev.ps b = (r, o) := ⟨_, _, rfl⟩
          obtain ⟨r, o, hps⟩ := hps
          refine (parse_let hps hby (Nat.le_trans HQ.out HZ.out.size) (by omega)).mono ?_
          rintro e t1 ⟨rfl, b1⟩
          have T1 := ((Held.start w1).step HZ.out).step b1 |>.new (opC o) 26
          have HPS := Lib.hid hps
          clear b1 hps hby
          go_upto_region 32 with (fail)
          obtain ⟨V1, hW⟩ : ∃ W, t1.alloc (.cells (opC o) 26) = W := ⟨_, rfl⟩
          rw [hW] at T1 ⊢
          have T1' := Lib.hid T1
          clear hW T1
          by_cases hr0 : r = 0
          · subst hr0
            have hbk := Ev.ps_back (l := b) HP.out.2.2.1.2.1 (by rw [HPS.out])
            rw [HPS.out] at hbk
            dsimp only at hbk
            have HBK := Lib.hid hbk
            have hbo : Ev.bytes o = b := by rw [← hbk.2.1]; exact if_pos hbk.1
            have HPT := Lib.hid (fun W => put_let hbo hbk.1 W)
            have HRT := fun W => pRight6_any o W
            rw [hbk.1] at HRT
            have HRT' := Lib.hid HRT
            have hbl := HP.out.2.2.1.1
            have HBL := Lib.hid hbl
            clear hbk hbo hbl HRT
            have kk := T1'.out.at_ (List.mem_cons_self ..)
            obtain ⟨⟨c0, c1, c2', c3'⟩, -⟩ := cells4 kk
            clear kk
            go_wp2_with fail
            clear c0 c1 c2' c3'
            refine (HPT.out _).mono ?_
            rintro e t2 ⟨A6, c6, rfl, o6, b6⟩
            have T2 := T1'.out.step b6
            have T2' := Lib.hid T2
            rw [HBL.out] at o6 ⊢
            have O6 := Lib.hid o6
            have kk := T2.at_ (List.mem_cons_self ..)
            obtain ⟨⟨c0, c1, c2', c3'⟩, -⟩ := cells4 kk
            clear T2 b6 o6 kk
            go_wp2_with fail
            clear c0 c1 c2' c3'
            refine (HRT'.out _).mono ?_
            rintro e t3 ⟨rfl, b7⟩
            have T3 := Lib.hid (T2'.out.step b7)
            have O7 := Lib.hid (own_below O6.out b7)
            clear b7
            go_wp2_with fail
            refine (same_yes n2 c6 n2 c2 t3.heap.size A6 A2 b t3 (Bytes.of_own O7.out HP.out.2.2.1.2.1) ((D1.out.2.2.2.below T3.out.1 HQ.out).more (Nat.le_trans HQ.out T3.out.1.size)) (by omega)).mono ?_
            rintro e t4 ⟨rfl, m4, rfl⟩
            go_wp2_with fail
            refine (works_any _).mono ?_
            rintro e t5 ⟨rfl, b9⟩
            have HF := Lib.hid (D1.out.2.1.trans ((below_next (below_drewN T3.out.1 m4) b9).mono D1.out.2.1.size))
            clear b9
            go_wp2_with fail
            go_ret
            exact ⟨rfl, HF.out⟩
          · have hno : o = Ev.none' := by
              have := Ev.ps_none (l := b) (by rw [HPS.out]; exact hr0)
              rw [HPS.out] at this
              exact this
            subst hno
            have i5 : (r != 0) = true := by rw [bne_iff_ne]; exact hr0
            have i6 : (r == 0) = false := by rw [beq_eq_false_iff_ne]; exact hr0
            have q1 : ∀ W, (Op.equalIn 10000 26 (.agg #[.int .u8 0, .string ⟨#[]⟩, .int .i64 0, .int .i64 0]) (.agg #[.int .u8 0, .string ⟨#[]⟩, .int .i64 0, .int .i64 0])).run Try.prog W = .ok true W := fun W => by
              have := op_equal Ev.none' Ev.none' W
              rw [(evq_iff Ev.none' Ev.none').2 rfl] at this
              exact this
            have g1 := op_guard
            have kk := T1'.out.at_ (List.mem_cons_self ..)
            have c0 : V1.cell? ⟨t1.heap.size, 0, none⟩ = some (.int .u8 0) := kk.cell 0
            have c1 : V1.cell? ⟨t1.heap.size, 1, none⟩ = some (.string ⟨#[]⟩) := kk.cell 1
            have c2' : V1.cell? ⟨t1.heap.size, 2, none⟩ = some (.int .i64 0) := kk.cell 2
            have c3' : V1.cell? ⟨t1.heap.size, 3, none⟩ = some (.int .i64 0) := kk.cell 3
            clear kk
            go_wp2_with fail
            refine (works_any _).mono ?_
            rintro e t5 ⟨rfl, b9⟩
            have HF := Lib.hid (D1.out.2.1.trans ((below_next T1'.out.1 b9).mono D1.out.2.1.size))
            clear b9
            go_wp2_with fail
            go_ret
            exact ⟨rfl, HF.out⟩
end Go.Proofs.Ytbcdacfmhjgfiaa
