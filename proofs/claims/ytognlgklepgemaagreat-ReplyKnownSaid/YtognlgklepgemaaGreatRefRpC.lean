/- Layer 8's reference: Right. -/
import Derived.Test.YtognlgklepgemaaGreatRefRpA
import Derived.Test.YtognlgklepgemaaGreatRefRpB
import Derived.Test.YtognlgklepgemaaGreatRefRi
import Derived.Deep.DeepCutAuto
import Derived.StillTailTactics
namespace Go.Proofs.YtognlgklepgemaaGreat
open Go.ChangeShapes Go.WideShapes Go.ChangeAt Go.RowKit

theorem Rp.V.In.below {x : Rp.V} {w w' : World} {B B' : Nat} {rows : List Rw} {gone : List Pn} (h : x.In w B rows gone) (hb : Below B' w w') (hB : B ≤ B') : x.In w' B rows gone := ⟨h.1.below hb hB, h.2.below hb hB⟩
theorem Rp.V.In.more {x : Rp.V} {w : World} {B B' : Nat} {rows : List Rw} {gone : List Pn} (h : x.In w B rows gone) (hB : B ≤ B') : x.In w B' rows gone := ⟨h.1.more hB, h.2.more hB⟩
theorem all_take {α : Type} [Inhabited α] {f : α → Bool} {l : List α} {j : Nat} (hj : j < l.length) (h : (l.take j).all f = true) : (l.take (j + 1)).all f = f (l.getD j default) := by
  rw [List.take_succ_eq_append_getElem hj, List.all_append, h, List.getD_eq_getElem?_getD, List.getElem?_eq_getElem hj]
  simp
theorem all_not {α : Type} [Inhabited α] {f : α → Bool} {l : List α} {j : Nat} (hj : j < l.length) (h : f (l.getD j default) = false) : l.all f = false := by
  rw [List.all_eq_false]
  refine ⟨l.getD j default, ?_, by rw [h]; decide⟩
  rw [List.getD_eq_getElem?_getD, List.getElem?_eq_getElem hj]
  exact List.getElem_mem _
theorem textOf_at {P : List Nat} {t : Nat} (hp : ∀ x ∈ P, x < 256) (h : t < (textOf P).size) : ((textOf P)[t]'h).toNat = P.getD t 0 := by
  have hl : t < P.length := by simpa [textOf, ByteArray.size] using h
  have e : (textOf P)[t]'h = UInt8.ofNat (P[t]'hl) := by
    exact (List.getElem_toArray (xs := P.map UInt8.ofNat) (i := t) (by simpa using hl)).trans (List.getElem_map ..)
  rw [e, UInt8.toNat_ofNat', List.getD_eq_getElem?_getD, List.getElem?_eq_getElem hl]
  have := hp _ (List.getElem_mem hl)
  show P[t] % 256 = P[t]
  omega
theorem rep_cells {w : World} {g : Nat} {T : TypeId} {Y : Rp.V} (h : Blk w g T Y.cells) : (w.cell? ⟨g, 0, none⟩ = some (.int .u8 (Y.k : Int)) ∧ w.cell? ⟨g, 1, none⟩ = some (.int .u32 (Y.id : Int)) ∧ w.cell? ⟨g, 2, none⟩ = some (.int .u16 (Y.code : Int)) ∧ w.cell? ⟨g, 3, none⟩ = some (.bool Y.last) ∧ w.cell? ⟨g, 4, none⟩ = some (.int .u64 (Y.ep : Int)) ∧ w.cell? ⟨g, 5, none⟩ = some (.int .u64 (Y.fl : Int)) ∧ w.cell? ⟨g, 6, none⟩ = some (.int .u64 (Y.un : Int)) ∧ w.cell? ⟨g, 7, none⟩ = some (.int .u64 (Y.le : Int)) ∧ w.cell? ⟨g, 8, none⟩ = some (.int .u64 (Y.st : Int)) ∧ w.cell? ⟨g, 9, none⟩ = some (.int .u64 (Y.ti : Int)) ∧ w.cell? ⟨g, 10, none⟩ = some (.slice Y.A Y.n Y.c) ∧ w.cell? ⟨g, 11, none⟩ = some (.slice Y.G Y.m Y.d)) ∧ w.frozen? ⟨g, 0, none⟩ = false ∧ w.frozen? ⟨g, 1, none⟩ = false ∧ w.frozen? ⟨g, 2, none⟩ = false ∧ w.frozen? ⟨g, 3, none⟩ = false ∧ w.frozen? ⟨g, 4, none⟩ = false ∧ w.frozen? ⟨g, 5, none⟩ = false ∧ w.frozen? ⟨g, 6, none⟩ = false ∧ w.frozen? ⟨g, 7, none⟩ = false ∧ w.frozen? ⟨g, 8, none⟩ = false ∧ w.frozen? ⟨g, 9, none⟩ = false ∧ w.frozen? ⟨g, 10, none⟩ = false ∧ w.frozen? ⟨g, 11, none⟩ = false :=
  ⟨⟨h.cell 0, h.cell 1, h.cell 2, h.cell 3, h.cell 4, h.cell 5, h.cell 6, h.cell 7, h.cell 8, h.cell 9, h.cell 10, h.cell 11⟩, h.frozen 0, h.frozen 1, h.frozen 2, h.frozen 3, h.frozen 4, h.frozen 5, h.frozen 6, h.frozen 7, h.frozen 8, h.frozen 9, h.frozen 10, h.frozen 11⟩
theorem blk_step {w w' : World} {g : Nat} {T : TypeId} {cs : Array Value} (h : Blk w g T cs) (b : Below w.heap.size w w') : Blk w' g T cs := h.below b h.lt
theorem held_set {w W : World} {g T : Nat} {cs : Array Value} (h : Held w W [(g, T, cs)]) (hg : w.heap.size ≤ g) (i : Nat) (u : Value) : Held w (W.setCell ⟨g, i, none⟩ u) [(g, T, cs.setIfInBounds i u)] :=
  ⟨h.1.setCell (p := ⟨g, i, none⟩) hg u, fun x hx => by
    obtain rfl := List.mem_singleton.1 hx
    exact h.top.set_ i u⟩
theorem arr12 (x0 x1 x2 x3 x4 x5 x6 x7 x8 x9 x10 x11 y0 y1 y2 y3 y4 y5 y6 y7 y8 y9 y10 y11 : Value) : (((((((((((((#[x0, x1, x2, x3, x4, x5, x6, x7, x8, x9, x10, x11].setIfInBounds 0 y0).setIfInBounds 1 y1).setIfInBounds 2 y2).setIfInBounds 3 y3).setIfInBounds 4 y4).setIfInBounds 5 y5).setIfInBounds 6 y6).setIfInBounds 7 y7).setIfInBounds 8 y8).setIfInBounds 9 y9).setIfInBounds 10 y10).setIfInBounds 11 y11) : Array Value) = #[y0, y1, y2, y3, y4, y5, y6, y7, y8, y9, y10, y11] := by
  simp
theorem held_rep {w W : World} {g T : Nat} {Y Z : Rp.V} (h : Held w W [(g, T, Y.cells)]) (hg : w.heap.size ≤ g) : Held w ((((((((((((W.setCell ⟨g, 0, none⟩ (.int .u8 (Z.k : Int))).setCell ⟨g, 1, none⟩ (.int .u32 (Z.id : Int))).setCell ⟨g, 2, none⟩ (.int .u16 (Z.code : Int))).setCell ⟨g, 3, none⟩ (.bool Z.last)).setCell ⟨g, 4, none⟩ (.int .u64 (Z.ep : Int))).setCell ⟨g, 5, none⟩ (.int .u64 (Z.fl : Int))).setCell ⟨g, 6, none⟩ (.int .u64 (Z.un : Int))).setCell ⟨g, 7, none⟩ (.int .u64 (Z.le : Int))).setCell ⟨g, 8, none⟩ (.int .u64 (Z.st : Int))).setCell ⟨g, 9, none⟩ (.int .u64 (Z.ti : Int))).setCell ⟨g, 10, none⟩ (.slice Z.A Z.n Z.c)).setCell ⟨g, 11, none⟩ (.slice Z.G Z.m Z.d)) [(g, T, Z.cells)] := by
  have hh := held_set (held_set (held_set (held_set (held_set (held_set (held_set (held_set (held_set (held_set (held_set (held_set h hg 0 (.int .u8 (Z.k : Int))) hg 1 (.int .u32 (Z.id : Int))) hg 2 (.int .u16 (Z.code : Int))) hg 3 (.bool Z.last)) hg 4 (.int .u64 (Z.ep : Int))) hg 5 (.int .u64 (Z.fl : Int))) hg 6 (.int .u64 (Z.un : Int))) hg 7 (.int .u64 (Z.le : Int))) hg 8 (.int .u64 (Z.st : Int))) hg 9 (.int .u64 (Z.ti : Int))) hg 10 (.slice Z.A Z.n Z.c)) hg 11 (.slice Z.G Z.m Z.d)
  unfold Rp.V.cells at hh ⊢
  rw [arr12] at hh
  exact hh
theorem letter_lt {c : Nat} (h : Rp.letter c) : c < 256 := by unfold Rp.letter at h; omega
theorem RowsIn.row {w : World} {B n : Nat} {A : Option Addr} {l : List Rw} (h : RowsIn w B A n l) {j : Nat} (hj : j < n) : ∃ b off, A = some ⟨b, off, none⟩ ∧ b < B ∧ w.cell? ⟨b, off + j * 7, none⟩ = some (.string (l.getD j default).p.k) ∧ w.cell? ⟨b, off + j * 7 + 1, none⟩ = some (.int .i64 (l.getD j default).p.s) ∧ w.cell? ⟨b, off + j * 7 + 2, none⟩ = some (.int .i64 (l.getD j default).p.e) ∧ w.cell? ⟨b, off + j * 7 + 3, none⟩ = some (.int .i64 (l.getD j default).a.c) ∧ w.cell? ⟨b, off + j * 7 + 4, none⟩ = some (.int .i64 (l.getD j default).a.s) ∧ w.cell? ⟨b, off + j * 7 + 5, none⟩ = some (.int .i64 (l.getD j default).a.lo) ∧ w.cell? ⟨b, off + j * 7 + 6, none⟩ = some (.int .i64 (l.getD j default).a.hi) := by
  obtain ⟨b, off, e, hb, hc⟩ := h.2 (by omega)
  exact ⟨b, off, e, hb, hc j hj 0 (by omega), hc j hj 1 (by omega), hc j hj 2 (by omega), hc j hj 3 (by omega), hc j hj 4 (by omega), hc j hj 5 (by omega), hc j hj 6 (by omega)⟩
theorem PansIn.pan {w : World} {B n : Nat} {A : Option Addr} {l : List Pn} (h : PansIn w B A n l) {j : Nat} (hj : j < n) : ∃ b off, A = some ⟨b, off, none⟩ ∧ b < B ∧ w.cell? ⟨b, off + j * 3, none⟩ = some (.string (l.getD j default).k) ∧ w.cell? ⟨b, off + j * 3 + 1, none⟩ = some (.int .i64 (l.getD j default).s) ∧ w.cell? ⟨b, off + j * 3 + 2, none⟩ = some (.int .i64 (l.getD j default).e) := by
  obtain ⟨b, off, e, hb, hc⟩ := h.2 (by omega)
  exact ⟨b, off, e, hb, hc j hj 0 (by omega), hc j hj 1 (by omega), hc j hj 2 (by omega)⟩
set_option maxRecDepth 100000 in
set_option maxHeartbeats 40000000 in
theorem refRight8_any (x : Rp.V) (B : Nat) (rows : List Rw) (gone : List Pn) (w : World) (hx : x.In w B rows gone) (hB : B ≤ w.heap.size) (hn : x.n ≤ 1000000) (hm : x.m ≤ 1000000) :
    Calls Tryz.prog 20 #[x.val] w fun e w' => e = .returned (.bool (x.right rows gone)) ∧ Below w.heap.size w w' := by
  have HX := Lib.hid (And.intro hx hB)
  clear hx hB
  have S0 := (Held.start w).new x.cells 40
  obtain ⟨rr, hrr⟩ : ∃ rr, x.right rows gone = rr := ⟨_, rfl⟩
  rw [hrr]
  obtain ⟨kd, hkd⟩ : ∃ kd, x.kind = kd := ⟨_, rfl⟩
  obtain ⟨k, id, code, last, ep, fl, un, le, st, ti, A, n, c, G, m, d⟩ := x
  dsimp only at hn hm
  unfold Rp.V.val
  unfold Rp.V.cells at S0 ⊢
  dsimp only at S0 ⊢
  go_enter Tryz.func20, Tryz.ntmps20
  go_upto_region 1 with (fail)
  obtain ⟨W, hW⟩ : ∃ W, w.alloc (.cells #[.int .u8 (k : Int), .int .u32 (id : Int), .int .u16 (code : Int), .bool last, .int .u64 (ep : Int), .int .u64 (fl : Int), .int .u64 (un : Int), .int .u64 (le : Int), .int .u64 (st : Int), .int .u64 (ti : Int), .slice A n c, .slice G m d] 40) = W := ⟨_, rfl⟩
  rw [hW] at S0 ⊢
  have hk0 := S0.top
  have HS := Lib.hid S0
  clear S0 hW
  have c0 := hk0.cell 0
  have c2 := hk0.cell 2
  have c10 := hk0.cell 10
  have c11 := hk0.cell 11
  have HK0 := Lib.hid hk0
  clear hk0
  have HRR := Lib.hid (And.intro hrr hkd)
  unfold Rp.V.kind at hkd
  dsimp only at hkd
  clear hrr
  go_cut [36] (fun v wx => v = .bool (!kd) ∧ wx = W)
  case first =>
    by_cases a1 : k < 1
    · obtain rfl : kd = false := by rw [← hkd]; exact decide_eq_false (by omega)
      have i1 : (k : Int) < 1 := by omega
      clear hkd
      go_wp2_with fail
      go_meet
      case rel => exact ⟨rfl, rfl⟩
    · have i1 : ¬ (k : Int) < 1 := by omega
      by_cases a2 : 7 < k
      · obtain rfl : kd = false := by rw [← hkd]; exact decide_eq_false (by omega)
        have i2 : (7 : Int) < k := by omega
        clear hkd
        go_wp2_with fail
        go_meet
        case rel => exact ⟨rfl, rfl⟩
      · have i2 : ¬ (7 : Int) < k := by omega
        by_cases a3 : k = 7
        · subst a3
          by_cases a4 : code = 0
          · subst a4
            obtain rfl : kd = false := by rw [← hkd]; exact decide_eq_false (by omega)
            clear hkd i1 i2
            go_wp2_with fail
            go_meet
            case rel => exact ⟨rfl, rfl⟩
          · have i4 : ((code : Int) == 0) = false := by rw [beq_eq_false_iff_ne]; omega
            clear i1 i2
            by_cases a5 : 64 < n + m
            · obtain rfl : kd = false := by rw [← hkd]; exact decide_eq_false (by omega)
              have i5 : (64 : Int) < (n : Int) + m := by omega
              clear hkd
              go_wp2_with fail
              go_meet
              case rel => exact ⟨rfl, rfl⟩
            · obtain rfl : kd = true := by rw [← hkd]; exact decide_eq_true (by omega)
              have i5 : ¬ (64 : Int) < (n : Int) + m := by omega
              clear hkd
              go_wp2_with fail
              go_meet
              case rel => exact ⟨rfl, rfl⟩
        · have i3 : ((k : Int) == 7) = false := by rw [beq_eq_false_iff_ne]; omega
          by_cases a5 : 64 < n + m
          · obtain rfl : kd = false := by rw [← hkd]; exact decide_eq_false (by omega)
            have i5 : (64 : Int) < (n : Int) + m := by omega
            clear hkd
            go_wp2_with fail
            go_meet
            case rel => exact ⟨rfl, rfl⟩
          · obtain rfl : kd = true := by rw [← hkd]; exact decide_eq_true (by omega)
            have i5 : ¬ (64 : Int) < (n : Int) + m := by omega
            clear hkd
            go_wp2_with fail
            go_meet
            case rel => exact ⟨rfl, rfl⟩
  case rest =>
  obtain ⟨rfl, rfl⟩ := hcut
  cases kd
  · obtain rfl : rr = false := by
      rw [← HRR.out.1]
      unfold Rp.V.right
      rw [HRR.out.2]
      rfl
    clear hkd
    go_wp2_with fail
    go_ret
    exact ⟨rfl, HS.out.1⟩
  · have hnm : n + m ≤ 64 := (of_decide_eq_true hkd).2.2.2
    clear hkd
    clear c0 c2 c10 c11
    rw [Bool.not_true]
    go_wp2_with fail
    go_loopw [3, 4] (fun i _ wr => ∃ j : Nat, j ≤ n ∧ i = .int .i64 (j : Int) ∧ (rows.take j).all Rp.rowRight = true ∧ Held w wr [(w.heap.size, 40, #[.int .u8 (k : Int), .int .u32 (id : Int), .int .u16 (code : Int), .bool last, .int .u64 (ep : Int), .int .u64 (fl : Int), .int .u64 (un : Int), .int .u64 (le : Int), .int .u64 (st : Int), .int .u64 (ti : Int), .slice A n c, .slice G m d])]) (fun i _ _ => n - (intOf i).toNat)
    case atStart => exact ⟨0, by omega, rfl, by simp, HS.out⟩
    case round =>
      obtain ⟨j, hj, rfl, hall, hheld⟩ := hrel
      have hk1 := hheld.top
      have HH := Lib.hid (And.intro hheld hall)
      have c10 := hk1.cell 10
      have c11 := hk1.cell 11
      clear hheld hk1
      by_cases hjn : j < n
      · have i1 : (0 : Int) ≤ j := by omega
        have i2 : (j : Int) < n := by omega
        obtain ⟨b, off, rfl, hbB, x0, x1, x2, x3, x4, x5, x6⟩ := (HX.out.1.1.below HH.out.1.1 HX.out.2).row hjn
        obtain ⟨r, hr⟩ : ∃ r, rows.getD j default = r := ⟨_, rfl⟩
        rw [hr] at x0 x1 x2 x3 x4 x5 x6
        have HRw := Lib.hid hr
        have S1 := HH.out.1.new #[.string r.p.k, .int .i64 r.p.s, .int .i64 r.p.e, .int .i64 r.a.c, .int .i64 r.a.s, .int .i64 r.a.lo, .int .i64 r.a.hi] 93
        clear hr hall
        go_upto_region 7 with (fail)
        clear x0 x1 x2 x3 x4 x5 x6 c10 c11
        obtain ⟨W1, hW1⟩ : ∃ W, wr.alloc (.cells #[.string r.p.k, .int .i64 r.p.s, .int .i64 r.p.e, .int .i64 r.a.c, .int .i64 r.a.s, .int .i64 r.a.lo, .int .i64 r.a.hi] 93) = W := ⟨_, rfl⟩
        rw [hW1] at S1 ⊢
        have kk := S1.top
        have x0 := kk.cell 0
        have x1 := kk.cell 1
        have x2 := kk.cell 2
        have HS1 := Lib.hid S1
        clear S1 hW1 kk
        have hfalse : Rp.rowRight r = false → rr = false := fun h => by
          rw [← HRR.out.1]
          unfold Rp.V.right
          dsimp only
          rw [all_not (f := Rp.rowRight) (l := rows) (j := j) (by rw [HX.out.1.1.1]; exact hjn) (by rw [HRw.out]; exact h)]
          simp
        have HF := Lib.hid hfalse
        clear hfalse
        obtain ⟨nb, hnb⟩ : ∃ nb, Rp.name r.p = nb := ⟨_, rfl⟩
        obtain ⟨rb, hrb⟩ : ∃ rb, Ag.right r.a = rb := ⟨_, rfl⟩
        obtain ⟨bb, hbb⟩ : ∃ bb, Ag.blank r.a = bb := ⟨_, rfl⟩
        have N1 := refName8_any r.p
        have N2 := refRight_any r.a
        have q1 := fun W => agg_blank r.a W
        have g1 := agg_guard
        rw [hnb] at N1
        rw [hrb] at N2
        rw [hbb] at q1
        have HB1 := Lib.hid (And.intro hnb (And.intro hrb hbb))
        have HN1 := Lib.hid N1
        have HN2 := Lib.hid N2
        clear hnb hrb hbb N1 N2
        go_wp2_with fail
        clear x0 x1 x2
        refine (HN1.out _).mono ?_
        rintro e w2 ⟨rfl, b2⟩
        have S2 := HS1.out.step b2
        have kk := S2.top
        have x3 := kk.cell 3
        have x4 := kk.cell 4
        have x5 := kk.cell 5
        have x6 := kk.cell 6
        have HS2 := Lib.hid S2
        clear b2 S2 kk
        cases nb
        · obtain rfl : rr = false := HF.out (by unfold Rp.rowRight; rw [HB1.out.1]; rfl)
          clear x3 x4 x5 x6 q1
          go_wp2_with fail
          go_ret
          exact ⟨rfl, HS2.out.1⟩
        · go_wp2_with fail
          clear x3 x4 x5 x6
          refine (HN2.out _).mono ?_
          rintro e w3 ⟨rfl, b3⟩
          have S3 := HS2.out.step b3
          have kk := S3.top
          have x3 := kk.cell 3
          have x4 := kk.cell 4
          have x5 := kk.cell 5
          have x6 := kk.cell 6
          have HS3 := Lib.hid S3
          clear b3 S3 kk
          cases rb
          · obtain rfl : rr = false := HF.out (by unfold Rp.rowRight; rw [HB1.out.1, HB1.out.2.1]; rfl)
            clear x3 x4 x5 x6 q1
            go_wp2_with fail
            go_ret
            exact ⟨rfl, HS3.out.1⟩
          · cases bb
            · have HJ : Hid ((rows.take (j + 1)).all Rp.rowRight = true) := Lib.hid (by
                rw [all_take (by rw [HX.out.1.1.1]; exact hjn) HH.out.2, HRw.out]
                unfold Rp.rowRight
                rw [HB1.out.1, HB1.out.2.1, HB1.out.2.2]
                rfl)
              go_wp2_with fail
              exact ⟨⟨j + 1, by omega, by go_num, HJ.out, HS3.out.drop⟩, by simp [intOf]; omega⟩
            · obtain rfl : rr = false := HF.out (by unfold Rp.rowRight; rw [HB1.out.1, HB1.out.2.1, HB1.out.2.2]; rfl)
              go_wp2_with fail
              go_ret
              exact ⟨rfl, HS3.out.1⟩
      · have i2 : ¬ (j : Int) < n := by omega
        clear hall
        obtain rfl : j = n := by omega
        have hra : rows.all Rp.rowRight = true := by
          have := HH.out.2
          rw [List.take_of_length_le (by rw [HX.out.1.1.1]; exact Nat.le_refl _)] at this
          exact this
        have HRA := Lib.hid hra
        have HG := Lib.hid HH.out.1
        clear hra
        go_upto_region 9 with (fail)
        clear c10 c11
        go_wp2_with fail
        go_loopw [5] (fun i wx => ∃ q : Nat, q ≤ m ∧ i = .int .i64 (q : Int) ∧ (gone.take q).all Rp.name = true ∧ Held w wx [(w.heap.size, 40, #[.int .u8 (k : Int), .int .u32 (id : Int), .int .u16 (code : Int), .bool last, .int .u64 (ep : Int), .int .u64 (fl : Int), .int .u64 (un : Int), .int .u64 (le : Int), .int .u64 (st : Int), .int .u64 (ti : Int), .slice A j c, .slice G m d])]) (fun i _ => m - (intOf i).toNat)
        case atStart => exact ⟨0, by omega, rfl, by simp, HG.out⟩
        case round =>
          obtain ⟨q, hq, rfl, hall, hheld⟩ := hrel
          have hk1 := hheld.top
          have HQ := Lib.hid (And.intro hheld hall)
          have c0 := hk1.cell 0
          have c11 := hk1.cell 11
          clear hheld
          by_cases hqm : q < m
          · have i1 : (0 : Int) ≤ q := by omega
            have i3 : (q : Int) < m := by omega
            obtain ⟨b, off, rfl, hbB, x0, x1, x2⟩ := (HX.out.1.2.below HQ.out.1.1 HX.out.2).pan hqm
            obtain ⟨p, hp⟩ : ∃ p, gone.getD q default = p := ⟨_, rfl⟩
            rw [hp] at x0 x1 x2
            have HPp := Lib.hid hp
            obtain ⟨nb, hnb⟩ : ∃ nb, Rp.name p = nb := ⟨_, rfl⟩
            have N1 := refName8_any p
            rw [hnb] at N1
            have HN1 := Lib.hid N1
            have HNB := Lib.hid hnb
            clear hp hnb N1 hall hk1 c0
            go_wp2_with fail
            clear x0 x1 x2
            refine (HN1.out _).mono ?_
            rintro e w2 ⟨rfl, b2⟩
            have HS2 := Lib.hid (HQ.out.1.step b2)
            clear b2
            cases nb
            · obtain rfl : rr = false := by
                rw [← HRR.out.1]
                unfold Rp.V.right
                dsimp only
                rw [all_not (f := Rp.name) (l := gone) (j := q) (by rw [HX.out.1.2.1]; exact hqm) (by rw [HPp.out]; exact HNB.out)]
                simp
              go_wp2_with fail
              go_ret
              exact ⟨rfl, HS2.out.1⟩
            · have HJ : Hid ((gone.take (q + 1)).all Rp.name = true) := Lib.hid (by
                rw [all_take (by rw [HX.out.1.2.1]; exact hqm) HQ.out.2, HPp.out]
                exact HNB.out)
              go_wp2_with fail
              exact ⟨⟨q + 1, by omega, by go_num, HJ.out, HS2.out⟩, by simp [intOf]; omega⟩
          · have i3 : ¬ (q : Int) < m := by omega
            obtain rfl : q = m := by omega
            have hga : gone.all Rp.name = true := by
              have := HQ.out.2
              rw [List.take_of_length_le (by rw [HX.out.1.2.1]; exact Nat.le_refl _)] at this
              exact this
            have HGA := Lib.hid hga
            clear hga hall
            go_wp2_with fail
            refine (refParts8_any k _).mono ?_
            rintro e w2 ⟨rfl, b2⟩
            have S2 := HQ.out.1.step b2
            have HS2 := Lib.hid S2
            clear c0 c11 hk1 b2
            have hk2 := S2.top
            clear S2
            have c0 := hk2.cell 0
            have c1 := hk2.cell 1
            have c2 := hk2.cell 2
            have c3 := hk2.cell 3
            have c4 := hk2.cell 4
            have c5 := hk2.cell 5
            have c6 := hk2.cell 6
            have c7 := hk2.cell 7
            have c8 := hk2.cell 8
            have c9 := hk2.cell 9
            have c10 := hk2.cell 10
            have c11 := hk2.cell 11
            clear hk2
            go_upto_region 16 with (fail)
            have S3 := HS2.out.new #[.int .u8 (k : Int), .int .u32 (id : Int), .int .u16 (code : Int), .bool last, .int .u64 (ep : Int), .int .u64 (fl : Int), .int .u64 (un : Int), .int .u64 (le : Int), .int .u64 (st : Int), .int .u64 (ti : Int), .slice A j c, .slice G q d] 40
            obtain ⟨W3, hW3⟩ : ∃ W, w2.alloc (.cells #[.int .u8 (k : Int), .int .u32 (id : Int), .int .u16 (code : Int), .bool last, .int .u64 (ep : Int), .int .u64 (fl : Int), .int .u64 (un : Int), .int .u64 (le : Int), .int .u64 (st : Int), .int .u64 (ti : Int), .slice A j c, .slice G q d] 40) = W := ⟨_, rfl⟩
            obtain ⟨g7, hg7⟩ : ∃ g, w2.heap.size = g := ⟨_, rfl⟩
            rw [hW3, hg7] at S3 ⊢
            have hgw : w.heap.size ≤ g7 := by rw [← hg7]; exact HS2.out.1.size
            obtain ⟨X, hX⟩ : ∃ X : Rp.V, (⟨k, id, code, last, ep, fl, un, le, st, ti, A, j, c, G, q, d⟩ : Rp.V) = X := ⟨_, rfl⟩
            have hXc : X.cells = #[.int .u8 (k : Int), .int .u32 (id : Int), .int .u16 (code : Int), .bool last, .int .u64 (ep : Int), .int .u64 (fl : Int), .int .u64 (un : Int), .int .u64 (le : Int), .int .u64 (st : Int), .int .u64 (ti : Int), .slice A j c, .slice G q d] := by rw [← hX]; rfl
            have HS3 := Lib.hid (hXc ▸ S3)
            have HXX := Lib.hid (And.intro hX hXc)
            obtain ⟨P, hP⟩ : ∃ P, Rp.parts k = P := ⟨_, rfl⟩
            have hPl := Rp.parts_len k
            have hPc := Rp.parts_letter k
            rw [hP] at hPl hPc ⊢
            obtain ⟨z, hz⟩ : ∃ z, P.length = z := ⟨_, rfl⟩
            have hzs : (textOf P).size = z := by rw [← hz]; simp [textOf, ByteArray.size]
            rw [hz] at hPl
            have HPP := Lib.hid (And.intro hP (And.intro hz hPc))
            clear hX hXc S3 hW3 hg7 hP hz hPc c0 c1 c2 c3 c4 c5 c6 c7 c8 c9 c10 c11
            go_wp2_with fail
            go_loopw [8] (fun i wx => ∃ t : Nat, t ≤ z ∧ i = .int .i64 (t : Int) ∧ Held w wx [(g7, 40, ((P.take t).foldl Rp.V.blank X).cells)]) (fun i _ => z - (intOf i).toNat)
            case atStart => exact ⟨0, by omega, rfl, ⟨HS3.out.1, fun x hx => HS3.out.2 x (by rw [List.mem_singleton.1 hx]; exact List.mem_cons_self ..)⟩⟩
            case round =>
              obtain ⟨t, ht, rfl, hheld⟩ := hrel
              have kk := hheld.top
              obtain ⟨Y, hY⟩ : ∃ Y, (P.take t).foldl Rp.V.blank X = Y := ⟨_, rfl⟩
              rw [hY] at kk hheld
              have HHY := Lib.hid (And.intro hheld hY)
              have HB7 := Lib.hid kk
              have y0 : wr.cell? ⟨g7, 0, none⟩ = some (.int .u8 (Y.k : Int)) := kk.cell 0
              have y1 : wr.cell? ⟨g7, 1, none⟩ = some (.int .u32 (Y.id : Int)) := kk.cell 1
              have y2 : wr.cell? ⟨g7, 2, none⟩ = some (.int .u16 (Y.code : Int)) := kk.cell 2
              have y3 : wr.cell? ⟨g7, 3, none⟩ = some (.bool Y.last) := kk.cell 3
              have y4 : wr.cell? ⟨g7, 4, none⟩ = some (.int .u64 (Y.ep : Int)) := kk.cell 4
              have y5 : wr.cell? ⟨g7, 5, none⟩ = some (.int .u64 (Y.fl : Int)) := kk.cell 5
              have y6 : wr.cell? ⟨g7, 6, none⟩ = some (.int .u64 (Y.un : Int)) := kk.cell 6
              have y7 : wr.cell? ⟨g7, 7, none⟩ = some (.int .u64 (Y.le : Int)) := kk.cell 7
              have y8 : wr.cell? ⟨g7, 8, none⟩ = some (.int .u64 (Y.st : Int)) := kk.cell 8
              have y9 : wr.cell? ⟨g7, 9, none⟩ = some (.int .u64 (Y.ti : Int)) := kk.cell 9
              have y10 : wr.cell? ⟨g7, 10, none⟩ = some (.slice Y.A Y.n Y.c) := kk.cell 10
              have y11 : wr.cell? ⟨g7, 11, none⟩ = some (.slice Y.G Y.m Y.d) := kk.cell 11
              clear kk hheld hY
              by_cases htz : t < z
              · have i5 : (0 : Int) ≤ t := by omega
                have i6 : (t : Int) < z := by omega
                have PP : Hid (∀ W, Below wr.heap.size wr W → W.cell? ⟨g7, 0, none⟩ = some (.int .u8 (Y.k : Int)) ∧ W.cell? ⟨g7, 1, none⟩ = some (.int .u32 (Y.id : Int)) ∧ W.cell? ⟨g7, 2, none⟩ = some (.int .u16 (Y.code : Int)) ∧ W.cell? ⟨g7, 3, none⟩ = some (.bool Y.last) ∧ W.cell? ⟨g7, 4, none⟩ = some (.int .u64 (Y.ep : Int)) ∧ W.cell? ⟨g7, 5, none⟩ = some (.int .u64 (Y.fl : Int)) ∧ W.cell? ⟨g7, 6, none⟩ = some (.int .u64 (Y.un : Int)) ∧ W.cell? ⟨g7, 7, none⟩ = some (.int .u64 (Y.le : Int)) ∧ W.cell? ⟨g7, 8, none⟩ = some (.int .u64 (Y.st : Int)) ∧ W.cell? ⟨g7, 9, none⟩ = some (.int .u64 (Y.ti : Int)) ∧ W.cell? ⟨g7, 10, none⟩ = some (.slice Y.A Y.n Y.c) ∧ W.cell? ⟨g7, 11, none⟩ = some (.slice Y.G Y.m Y.d) ∧ W.frozen? ⟨g7, 0, none⟩ = false ∧ W.frozen? ⟨g7, 1, none⟩ = false ∧ W.frozen? ⟨g7, 2, none⟩ = false ∧ W.frozen? ⟨g7, 3, none⟩ = false ∧ W.frozen? ⟨g7, 4, none⟩ = false ∧ W.frozen? ⟨g7, 5, none⟩ = false ∧ W.frozen? ⟨g7, 6, none⟩ = false ∧ W.frozen? ⟨g7, 7, none⟩ = false ∧ W.frozen? ⟨g7, 8, none⟩ = false ∧ W.frozen? ⟨g7, 9, none⟩ = false ∧ W.frozen? ⟨g7, 10, none⟩ = false ∧ W.frozen? ⟨g7, 11, none⟩ = false) := Lib.hid fun W hW => by
                  have hk := blk_step HB7.out hW
                  exact ⟨hk.cell 0, hk.cell 1, hk.cell 2, hk.cell 3, hk.cell 4, hk.cell 5, hk.cell 6, hk.cell 7, hk.cell 8, hk.cell 9, hk.cell 10, hk.cell 11, hk.frozen 0, hk.frozen 1, hk.frozen 2, hk.frozen 3, hk.frozen 4, hk.frozen 5, hk.frozen 6, hk.frozen 7, hk.frozen 8, hk.frozen 9, hk.frozen 10, hk.frozen 11⟩
                have D0 : Hid (Below wr.heap.size wr wr.drew) := Lib.hid (Below.refl _ _).drew
                obtain ⟨ch, hch⟩ : ∃ ch, P.getD t 0 = ch := ⟨_, rfl⟩
                have hlet : Rp.letter ch := by
                  rw [← hch, List.getD_eq_getElem?_getD, List.getElem?_eq_getElem (by rw [HPP.out.2.1]; exact htz)]
                  exact HPP.out.2.2 _ (List.getElem_mem _)
                obtain ⟨Z, hZ⟩ : ∃ Z, Y.blank ch = Z := ⟨_, rfl⟩
                have HCB : Hid (∀ W, Calls Tryz.prog 49 #[.agg #[.int .u8 (Y.k : Int), .int .u32 (Y.id : Int), .int .u16 (Y.code : Int), .bool Y.last, .int .u64 (Y.ep : Int), .int .u64 (Y.fl : Int), .int .u64 (Y.un : Int), .int .u64 (Y.le : Int), .int .u64 (Y.st : Int), .int .u64 (Y.ti : Int), .slice Y.A Y.n Y.c, .slice Y.G Y.m Y.d], .int .u8 (ch : Int)] W fun e w' => e = .returned (.agg #[.int .u8 (Z.k : Int), .int .u32 (Z.id : Int), .int .u16 (Z.code : Int), .bool Z.last, .int .u64 (Z.ep : Int), .int .u64 (Z.fl : Int), .int .u64 (Z.un : Int), .int .u64 (Z.le : Int), .int .u64 (Z.st : Int), .int .u64 (Z.ti : Int), .slice Z.A Z.n Z.c, .slice Z.G Z.m Z.d]) ∧ Below W.heap.size W w') := Lib.hid fun W => by
                  have := refBlank8_any Y ch W hlet
                  rw [hZ] at this
                  exact this
                have hcx : ∀ h : t < (textOf P).size, ((textOf P)[t]'h).toNat = ch := fun h => (textOf_at (fun y hy => letter_lt (HPP.out.2.2 y hy)) h).trans hch
                have HZ := Lib.hid (And.intro hch hZ)
                clear hch hZ hlet y0 y1 y2 y3 y4 y5 y6 y7 y8 y9 y10 y11
                go_wp2_with fail
                obtain ⟨y0, y1, y2, y3, y4, y5, y6, y7, y8, y9, y10, y11, -⟩ := PP.out wr (Below.refl _ _)
                go_still_tail 4, (by kernel_rfl)
                clear y0 y1 y2 y3 y4 y5 y6 y7 y8 y9 y10 y11 hcx
                change wpList _ _ _ _ _ wr.drew
                go_wp2_with fail
                refine (HCB.out _).mono ?_
                rintro e w4 ⟨rfl, b4⟩
                have D1 := Lib.hid (below_next D0.out b4)
                obtain ⟨⟨z0, z1, z2, z3, z4, z5, z6, z7, z8, z9, z10, z11⟩, f0, f1, f2, f3, f4, f5, f6, f7, f8, f9, f10, f11⟩ := rep_cells (blk_step HB7.out D1.out)
                clear b4
                go_wp2_with fail
                refine ⟨⟨t + 1, by omega, by go_num, ?_⟩, by simp [intOf]; omega⟩
                have e : (P.take (t + 1)).foldl Rp.V.blank X = Z := by
                  rw [take_snoc P t (by rw [HPP.out.2.1]; exact htz), List.foldl_append, HHY.out.2, HZ.out.1]
                  exact HZ.out.2
                rw [e]
                exact held_rep (HHY.out.1.step D1.out) hgw
              · have i6 : ¬ (t : Int) < z := by omega
                have hbare : rr = Y.bare := by
                  rw [← HRR.out.1]
                  unfold Rp.V.right
                  rw [HRR.out.2, HRA.out, HGA.out, HXX.out.1]
                  have ek : X.k = k := by rw [← HXX.out.1]
                  rw [ek, HPP.out.1, ← HHY.out.2, List.take_of_length_le (by rw [HPP.out.2.1]; omega)]
                  rfl
                have HBR := Lib.hid hbare
                unfold Rp.V.bare at hbare
                go_upto_region 20 with (fail)
                by_cases b0 : Y.code = 0
                rotate_left
                · obtain rfl : rr = false := by rw [hbare]; simp [b0]
                  have v0 : ((Y.code : Int) == 0) = false := by rw [beq_eq_false_iff_ne]; omega
                  clear hbare b0
                  go_wp2_with fail
                  go_ret
                  exact ⟨rfl, HHY.out.1.1⟩
                have v0 : ((Y.code : Int) == 0) = true := by rw [beq_iff_eq]; omega
                by_cases b1 : Y.last = false
                rotate_left
                · obtain rfl : rr = false := by rw [hbare]; simp [b0, b1]
                  have v1 : Y.last = true := by simpa using b1
                  clear hbare b0 b1
                  go_wp2_with fail
                  go_ret
                  exact ⟨rfl, HHY.out.1.1⟩
                have v1 : Y.last = false := b1
                by_cases b2 : Y.ep = 0
                rotate_left
                · obtain rfl : rr = false := by rw [hbare]; simp [b0, b1, b2]
                  have v2 : ((Y.ep : Int) == 0) = false := by rw [beq_eq_false_iff_ne]; omega
                  clear hbare b0 b1 b2
                  go_wp2_with fail
                  go_ret
                  exact ⟨rfl, HHY.out.1.1⟩
                have v2 : ((Y.ep : Int) == 0) = true := by rw [beq_iff_eq]; omega
                by_cases b3 : Y.fl = 0
                rotate_left
                · obtain rfl : rr = false := by rw [hbare]; simp [b0, b1, b2, b3]
                  have v3 : ((Y.fl : Int) == 0) = false := by rw [beq_eq_false_iff_ne]; omega
                  clear hbare b0 b1 b2 b3
                  go_wp2_with fail
                  go_ret
                  exact ⟨rfl, HHY.out.1.1⟩
                have v3 : ((Y.fl : Int) == 0) = true := by rw [beq_iff_eq]; omega
                by_cases b4 : Y.un = 0
                rotate_left
                · obtain rfl : rr = false := by rw [hbare]; simp [b0, b1, b2, b3, b4]
                  have v4 : ((Y.un : Int) == 0) = false := by rw [beq_eq_false_iff_ne]; omega
                  clear hbare b0 b1 b2 b3 b4
                  go_wp2_with fail
                  go_ret
                  exact ⟨rfl, HHY.out.1.1⟩
                have v4 : ((Y.un : Int) == 0) = true := by rw [beq_iff_eq]; omega
                by_cases b5 : Y.le = 0
                rotate_left
                · obtain rfl : rr = false := by rw [hbare]; simp [b0, b1, b2, b3, b4, b5]
                  have v5 : ((Y.le : Int) == 0) = false := by rw [beq_eq_false_iff_ne]; omega
                  clear hbare b0 b1 b2 b3 b4 b5
                  go_wp2_with fail
                  go_ret
                  exact ⟨rfl, HHY.out.1.1⟩
                have v5 : ((Y.le : Int) == 0) = true := by rw [beq_iff_eq]; omega
                by_cases b6 : Y.st = 0
                rotate_left
                · obtain rfl : rr = false := by rw [hbare]; simp [b0, b1, b2, b3, b4, b5, b6]
                  have v6 : ((Y.st : Int) == 0) = false := by rw [beq_eq_false_iff_ne]; omega
                  clear hbare b0 b1 b2 b3 b4 b5 b6
                  go_wp2_with fail
                  go_ret
                  exact ⟨rfl, HHY.out.1.1⟩
                have v6 : ((Y.st : Int) == 0) = true := by rw [beq_iff_eq]; omega
                by_cases b7 : Y.ti = 0
                rotate_left
                · obtain rfl : rr = false := by rw [hbare]; simp [b0, b1, b2, b3, b4, b5, b6, b7]
                  have v7 : ((Y.ti : Int) == 0) = false := by rw [beq_eq_false_iff_ne]; omega
                  clear hbare b0 b1 b2 b3 b4 b5 b6 b7
                  go_wp2_with fail
                  go_ret
                  exact ⟨rfl, HHY.out.1.1⟩
                have v7 : ((Y.ti : Int) == 0) = true := by rw [beq_iff_eq]; omega
                by_cases b8 : Y.n = 0
                rotate_left
                · obtain rfl : rr = false := by rw [hbare]; simp [b0, b1, b2, b3, b4, b5, b6, b7, b8]
                  have v8 : ((Y.n : Int) == 0) = false := by rw [beq_eq_false_iff_ne]; omega
                  clear hbare b0 b1 b2 b3 b4 b5 b6 b7 b8
                  go_wp2_with fail
                  go_ret
                  exact ⟨rfl, HHY.out.1.1⟩
                have v8 : ((Y.n : Int) == 0) = true := by rw [beq_iff_eq]; omega
                by_cases b9 : Y.m = 0
                rotate_left
                · obtain rfl : rr = false := by rw [hbare]; simp [b0, b1, b2, b3, b4, b5, b6, b7, b8, b9]
                  have v9 : ((Y.m : Int) == 0) = false := by rw [beq_eq_false_iff_ne]; omega
                  clear hbare b0 b1 b2 b3 b4 b5 b6 b7 b8 b9
                  go_wp2_with fail
                  go_ret
                  exact ⟨rfl, HHY.out.1.1⟩
                have v9 : ((Y.m : Int) == 0) = true := by rw [beq_iff_eq]; omega
                obtain rfl : rr = true := by rw [hbare]; simp [b0, b1, b2, b3, b4, b5, b6, b7, b8, b9]
                clear hbare b0 b1 b2 b3 b4 b5 b6 b7 b8 b9
                go_wp2_with fail
                go_ret
                exact ⟨rfl, HHY.out.1.1⟩
end Go.Proofs.YtognlgklepgemaaGreat
