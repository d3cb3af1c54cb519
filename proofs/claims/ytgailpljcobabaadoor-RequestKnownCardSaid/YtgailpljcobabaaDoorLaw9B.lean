/- Layer 9's statement RequestBack. -/
import Derived.Test.YtgailpljcobabaaDoorRqO
import Derived.Test.YtgailpljcobabaaDoorSame9
import Derived.Deep.DeepCutAuto
namespace Go.Proofs.YtgailpljcobabaaDoor
open Go.ChangeShapes Go.WideShapes Go.ChangeAt Go.RowKit

theorem same_b9 {n n' c c' B : Nat} {A A' : Option Addr} {l : List Nat} {w : World} (hb : Bytes w B A n l) (hb' : Bytes w B A' n' l) (hn : n ≤ 1000000) :
    Calls Tryd.prog 12 #[.slice A n c, .slice A' n' c'] w fun e w' => e = .returned (.bool true) ∧ Below w.heap.size w w' := by
  refine (same_yes n c n' c' B A A' l w hb hb' (by omega)).mono ?_
  rintro e w' ⟨rfl, m, rfl⟩
  exact ⟨rfl, below_dn _ _⟩
theorem blk2 {w W : World} {t t' : TypeId} {cs cs' : Array Value} (h : Held w W [(w.heap.size, t, cs), (w.heap.size + 1, t', cs')]) : Blk W w.heap.size t cs ∧ Blk W (w.heap.size + 1) t' cs' := ⟨h.2 _ (List.mem_cons_self ..), h.2 _ (List.mem_cons_of_mem _ (List.mem_cons_self ..))⟩
theorem held2 (w : World) (t : TypeId) (cs cs' : Array Value) : Held w ((w.alloc (.cells cs t)).alloc (.cells cs' t)) [(w.heap.size, t, cs), (w.heap.size + 1, t, cs')] := by
  have h := ((Held.start w).new cs t).new cs' t
  refine ⟨h.1, fun y hy => ?_⟩
  simp only [List.mem_cons, List.not_mem_nil, or_false] at hy
  rcases hy with rfl | rfl
  · exact h.2 _ (by simp)
  · have := h.2 _ (List.mem_cons_self ..)
    simpa using this
set_option maxRecDepth 100000 in
set_option maxHeartbeats 40000000 in
theorem requestBack_any (x y : Rq.V) (n c B : Nat) (A : Option Addr) (b : List Nat) (w : World) (hV : Vars w) (okx : x.ok) (oky : y.ok) (hb : Bytes w B A n b) (hB : B ≤ w.heap.size) (hnc : n ≤ c) : Calls Tryd.prog 5 #[x.val, y.val, .slice A n c] w (LawP w) := by
  obtain ⟨iu, hu, hu0, hu1, hu2⟩ := info_parts Tryd.info5
  have HU := Lib.hid (And.intro hu (And.intro hu0 (And.intro hu1 hu2)))
  clear hu hu0 hu1 hu2
  have HV : Hid (∀ W, Below w.heap.size w W → Vars W) := Lib.hid fun W hW => hV.next hW
  have S0 := held2 w 26 x.cells y.cells
  have RC : Hid (∀ W, Held w W [(w.heap.size, 26, x.cells), (w.heap.size + 1, 26, y.cells)] → ReqCells W w.heap.size x ∧ ReqCells W (w.heap.size + 1) y) := Lib.hid fun W hW => ⟨(req_cells (blk2 hW).1).1, (req_cells (blk2 hW).2).1⟩
  obtain ⟨⟨r0, r1, r2, r3, r4, r5, r6, r7, r8, r9, r10⟩, q0, q1, q2, q3, q4, q5, q6, q7, q8, q9, q10⟩ := RC.out _ S0
  have CFx : Hid (∀ W, Calls Tryd.prog 7 #[x.val] W fun e w' => e = .returned (.bool (Rq.few x)) ∧ Below W.heap.size W w') := Lib.hid fun W => few9_any x W
  have CFy : Hid (∀ W, Calls Tryd.prog 7 #[y.val] W fun e w' => e = .returned (.bool (Rq.few y)) ∧ Below W.heap.size W w') := Lib.hid fun W => few9_any y W
  have WK : Hid (∀ W, Below w.heap.size w W → Calls Tryd.prog 8 #[] W (LawP W)) := Lib.hid fun W hW => works9_any W (HV.out W hW)
  have BY : Hid (∀ W, Below w.heap.size w W → Bytes W B A n b ∧ B ≤ W.heap.size) := Lib.hid fun W hW => ⟨hb.below hW hB, Nat.le_trans hB hW.size⟩
  have hblt : ∀ z ∈ b, z < 256 := hb.2.1
  have hblen : b.length = n := hb.1
  have CPx : Hid (∀ W, Below w.heap.size w W → Calls Tryd.prog 11 #[x.val] W (PutR W x.putB x.putE)) := Lib.hid fun W hW => pPut9_any x W (HV.out W hW) okx
  have CPy : Hid (∀ W, Below w.heap.size w W → Calls Tryd.prog 11 #[y.val] W (PutR W y.putB y.putE)) := Lib.hid fun W hW => pPut9_any y W (HV.out W hW) oky
  have CRx : Hid (∀ W, Below w.heap.size w W → Calls Tryd.prog 14 #[x.val] W fun e w' => e = .returned (.bool x.right) ∧ Below W.heap.size W w') := Lib.hid fun W hW => pRight9_any x W (HV.out W hW) okx.1
  have CPs : Hid (∀ W m c' B' A' l, Below w.heap.size w W → Bytes W B' A' m l → B' ≤ W.heap.size → m ≤ 1000000 → Calls Tryd.prog 19 #[.slice A' m c'] W (PsP W l)) := Lib.hid fun W m c' B' A' l hW h1 h2 h3 => pParse9_any m c' B' A' l W (HV.out W hW) h1 h2 h3
  have CId : Hid (∀ W m c' B' A' l, Bytes W B' A' m l → B' ≤ W.heap.size → m ≤ 1000000 → m ≤ c' → Calls Tryd.prog 21 #[.slice A' m c'] W fun e w' => e = .returned (.int .u32 ((Rq.idOf l : Nat) : Int)) ∧ Below W.heap.size W w') := Lib.hid fun W m c' B' A' l h1 h2 h3 h4 => pId_any m c' B' A' l W h1 h2 h3 h4
  have HFW := Lib.hid (fun h => Rq.forth hblt h)
  have HX : Hid (x.right = true → Rq.pse x.bytes = 0 ∧ Rq.psx x.bytes = x ∧ Rq.idOf x.bytes = x.id ∧ x.bytes.length ≤ 99 ∧ 5 ≤ x.bytes.length ∧ Rq.pse (x.bytes ++ [0]) = 21 ∧ Rq.pse x.bytes.dropLast = 20) := Lib.hid fun h => ⟨(Rq.back x okx h).1, (Rq.back x okx h).2, Rq.idOf_at x okx h, (Rq.V.bytes_le h).1, (Rq.V.bytes_le h).2, Rq.rest x okx h, Rq.short x okx h⟩
  have HAP : Hid (x.right = true → y.right = true → ∀ r, y.bytes = x.bytes ++ r → x = y) := Lib.hid fun h1 h2 r h => Rq.apart x y okx oky h1 h2 r h
  have QXX : Hid (∀ W, (Op.equalIn 10000 26 (.agg x.cells) (.agg x.cells)).run Tryd.prog W = .ok true W) := Lib.hid fun W => by rw [req_equal x x W, Rq.eqb_self]
  have QXY : Hid (∀ W, (Op.equalIn 10000 26 (.agg x.cells) (.agg y.cells)).run Tryd.prog W = .ok (Rq.eqb x y) W) := Lib.hid fun W => req_equal x y W
  have hxlt := x.bytes_lt
  have hylt := y.bytes_lt
  have hyl : y.putB.length ≤ 99 := y.putB_len
  have HLT := Lib.hid (And.intro hxlt hylt)
  have HS := Lib.hid S0
  obtain ⟨f1, hf1⟩ : ∃ f, Rq.few x = f := ⟨_, rfl⟩
  obtain ⟨f2, hf2⟩ : ∃ f, Rq.few y = f := ⟨_, rfl⟩
  obtain ⟨X, hX⟩ : ∃ X, x = X := ⟨_, rfl⟩
  obtain ⟨Y, hY⟩ : ∃ Y, y = Y := ⟨_, rfl⟩
  have HXB : Hid ((x.right = false → x.putB = [] ∧ x.putE = 81) ∧ (x.right = true → x.putB = x.bytes ∧ x.putE = 0)) := Lib.hid ⟨fun h => ⟨by unfold Rq.V.putB; rw [h]; rfl, by unfold Rq.V.putE; rw [h]; rfl⟩, fun h => ⟨by unfold Rq.V.putB; rw [h]; rfl, by unfold Rq.V.putE; rw [h]; rfl⟩⟩
  have HYB : Hid ((y.right = false → y.putB = [] ∧ y.putE = 81) ∧ (y.right = true → y.putB = y.bytes ∧ y.putE = 0)) := Lib.hid ⟨fun h => ⟨by unfold Rq.V.putB; rw [h]; rfl, by unfold Rq.V.putE; rw [h]; rfl⟩, fun h => ⟨by unfold Rq.V.putB; rw [h]; rfl, by unfold Rq.V.putE; rw [h]; rfl⟩⟩
  rw [hf1] at CFx
  rw [hf2] at CFy
  -- all that is told of the two, under letters
  have HEQ : Hid (X = Y → Rq.eqb x y = true) := Lib.hid fun h => by rw [hX, hY, h]; exact Rq.eqb_self Y
  have HAP : Hid (x.right = true → y.right = true → ∀ r, y.bytes = x.bytes ++ r → Rq.eqb x y = true) := Lib.hid fun h1 h2 r h => by rw [HAP.out h1 h2 r h]; exact Rq.eqb_self y
  clear HEQ hX hY
  obtain ⟨xr, hxr⟩ : ∃ r, x.right = r := ⟨_, rfl⟩
  obtain ⟨yr, hyr⟩ : ∃ r, y.right = r := ⟨_, rfl⟩
  obtain ⟨xb, hxb⟩ : ∃ r, x.bytes = r := ⟨_, rfl⟩
  obtain ⟨yb, hyb⟩ : ∃ r, y.bytes = r := ⟨_, rfl⟩
  obtain ⟨xB, hxB⟩ : ∃ r, x.putB = r := ⟨_, rfl⟩
  obtain ⟨yB, hyB⟩ : ∃ r, y.putB = r := ⟨_, rfl⟩
  obtain ⟨xE, hxE⟩ : ∃ r, x.putE = r := ⟨_, rfl⟩
  obtain ⟨yE, hyE⟩ : ∃ r, y.putE = r := ⟨_, rfl⟩
  obtain ⟨qe, hqe⟩ : ∃ r, Rq.eqb x y = r := ⟨_, rfl⟩
  rw [hxB, hxE] at CPx
  rw [hyB, hyE] at CPy
  rw [hxr] at CRx
  rw [hxr, hxb] at HX
  rw [hxr, hyr, hxb, hyb, hqe] at HAP
  rw [hqe] at QXY
  rw [hxr, hxb, hxB, hxE] at HXB
  rw [hyr, hyb, hyB, hyE] at HYB
  rw [hxb, hyb] at HLT
  rw [hyB] at hyl
  clear S0 hV hb hB okx oky hxlt hylt hf1 hf2 hxr hyr hxb hyb hxB hyB hxE hyE hqe
  have HG := Lib.hid req_guard
  obtain ⟨k, id, pg, du, a, l, s, ky, tz, lo, hi⟩ := x
  obtain ⟨yk, yid, ypg, ydu, ya, yl, ys, yky, ytz, ylo, yhi⟩ := y
  unfold Rq.V.val ReqCells at *
  unfold Rq.V.cells at *
  dsimp only at *
  cases f1
  · go_enter Tryd.func5, Tryd.ntmps5
    go_wp2_with fail
    refine (CFx.out _).mono ?_
    rintro e w1 ⟨rfl, b1⟩
    have H1 := Lib.hid (HS.out.step b1)
    clear b1
    go_wp2_with fail
    refine (WK.out _ H1.out.1).mono ?_
    rintro e w99 ⟨rfl, b99⟩
    have H99 := Lib.hid (below_next H1.out.1 b99)
    clear b99
    go_wp2_with fail
    go_ret
    exact ⟨rfl, H99.out⟩
  cases f2
  · go_enter Tryd.func5, Tryd.ntmps5
    go_wp2_with fail
    clear r0 r1 r2 r3 r4 r5 r6 r7 r8 r9 r10 q0 q1 q2 q3 q4 q5 q6 q7 q8 q9 q10
    refine (CFx.out _).mono ?_
    rintro e w1 ⟨rfl, b1⟩
    have S1 := HS.out.step b1
    obtain ⟨-, q0, q1, q2, q3, q4, q5, q6, q7, q8, q9, q10⟩ := RC.out _ S1
    have H1 := Lib.hid S1
    clear b1 S1
    go_wp2_with fail
    refine (CFy.out _).mono ?_
    rintro e w2 ⟨rfl, b2⟩
    have H2 := Lib.hid (H1.out.step b2)
    clear b2
    go_wp2_with fail
    refine (WK.out _ H2.out.1).mono ?_
    rintro e w99 ⟨rfl, b99⟩
    have H99 := Lib.hid (below_next H2.out.1 b99)
    clear b99
    go_wp2_with fail
    go_ret
    exact ⟨rfl, H99.out⟩
  have hbelow := n
  by_cases hn3 : n ≤ 300
  rotate_left
  · have i1 : (300 : Int) < n := by omega
    have i2 : decide ((300 : Int) < n) = true := decide_eq_true i1
    go_enter Tryd.func5, Tryd.ntmps5
    go_wp2_with fail
    clear r0 r1 r2 r3 r4 r5 r6 r7 r8 r9 r10 q0 q1 q2 q3 q4 q5 q6 q7 q8 q9 q10
    refine (CFx.out _).mono ?_
    rintro e w1 ⟨rfl, b1⟩
    have S1 := HS.out.step b1
    obtain ⟨-, q0, q1, q2, q3, q4, q5, q6, q7, q8, q9, q10⟩ := RC.out _ S1
    have H1 := Lib.hid S1
    clear b1 S1
    go_wp2_with fail
    clear q0 q1 q2 q3 q4 q5 q6 q7 q8 q9 q10
    refine (CFy.out _).mono ?_
    rintro e w2 ⟨rfl, b2⟩
    have H2 := Lib.hid (H1.out.step b2)
    clear b2
    go_wp2_with fail
    refine (WK.out _ H2.out.1).mono ?_
    rintro e w99 ⟨rfl, b99⟩
    have H99 := Lib.hid (below_next H2.out.1 b99)
    clear b99
    go_wp2_with fail
    go_ret
    exact ⟨rfl, H99.out⟩
  have i1 : ¬ (300 : Int) < n := by omega
  have i2 : decide ((300 : Int) < n) = false := decide_eq_false i1
  go_enter Tryd.func5, Tryd.ntmps5
  go_wp2_with fail
  clear r0 r1 r2 r3 r4 r5 r6 r7 r8 r9 r10 q0 q1 q2 q3 q4 q5 q6 q7 q8 q9 q10
  refine (CFx.out _).mono ?_
  rintro e w1 ⟨rfl, b1⟩
  have S1 := HS.out.step b1
  obtain ⟨-, q0, q1, q2, q3, q4, q5, q6, q7, q8, q9, q10⟩ := RC.out _ S1
  have H1 := Lib.hid S1
  clear b1 S1
  go_wp2_with fail
  clear q0 q1 q2 q3 q4 q5 q6 q7 q8 q9 q10
  refine (CFy.out _).mono ?_
  rintro e w2 ⟨rfl, b2⟩
  have H2 := Lib.hid (H1.out.step b2)
  clear b2
  go_wp2_with fail
  refine (CPs.out _ n c B A b H2.out.1 (BY.out _ H2.out.1).1 (BY.out _ H2.out.1).2 (by omega)).mono ?_
  rintro e w3 hp
  obtain ⟨pe, hpe⟩ : ∃ r, Rq.pse b = r := ⟨_, rfl⟩
  obtain ⟨px, hpx⟩ : ∃ r, Rq.psx b = r := ⟨_, rfl⟩
  unfold PsP at hp
  rw [hpe, hpx] at hp
  obtain ⟨rfl, b3⟩ := hp
  rw [hpe, hpx] at HFW
  clear hpe hpx
  have CPp : Hid (px.ok → (px.putB = px.bytes ∧ px.putE = 0) → px.bytes = b → ∀ W, Below w.heap.size w W → Calls Tryd.prog 11 #[px.val] W (PutR W b 0)) := Lib.hid fun h h1 h2 W hW => by
    have := pPut9_any px W (HV.out W hW) h
    rw [h1.1, h1.2, h2] at this
    exact this
  have CRp : Hid (px.ok → px.right = true → ∀ W, Below w.heap.size w W → Calls Tryd.prog 14 #[px.val] W fun e w' => e = .returned (.bool true) ∧ Below W.heap.size W w') := Lib.hid fun h h1 W hW => by
    have := pRight9_any px W (HV.out W hW) h.1
    rw [h1] at this
    exact this
  have CIb : Hid (px.id = Rq.idOf b → ∀ W, Below w.heap.size w W → Calls Tryd.prog 21 #[.slice A n c] W fun e w' => e = .returned (.int .u32 (px.id : Int)) ∧ Below W.heap.size W w') := Lib.hid fun h W hW => by
    rw [h]
    exact CId.out W n c B A b (BY.out W hW).1 (BY.out W hW).2 (by omega) hnc
  have SBY : Hid (∀ W A' c' B', Below w.heap.size w W → W.ownsRow B' 5 1 (.slice A' n c') n (u8s b) → Calls Tryd.prog 12 #[.slice A' n c', .slice A n c] W fun e w' => e = .returned (.bool true) ∧ Below W.heap.size W w') := Lib.hid fun W A' c' B' hW ho => same_b9 (Bytes.of_own ho hblt) ((BY.out W hW).1.more (BY.out W hW).2) (by omega)
  have HPB : Hid (px.right = true → px.putB = px.bytes ∧ px.putE = 0) := Lib.hid fun h => ⟨by unfold Rq.V.putB; rw [h]; rfl, by unfold Rq.V.putE; rw [h]; rfl⟩
  have KC : Hid (∀ W, Blk W w3.heap.size 26 px.cells → ReqCells W w3.heap.size px) := Lib.hid fun W h => (req_cells h).1
  have K3 : Blk (w3.alloc (.cells px.cells 26)) w3.heap.size 26 px.cells := Blk.new _ _ _
  have H3 := Lib.hid (And.intro ((H2.out.step b3).step ((Below.refl _ _).alloc (Nat.le_refl _) (.cells px.cells 26))) K3)
  clear b3 K3
  obtain ⟨pk, pid, ppg, pdu, pa, pl, ps, pky, ptz, plo, phi⟩ := px
  unfold Rq.V.val ReqCells at *
  unfold Rq.V.cells at *
  dsimp only at *
  by_cases he0 : pe = 0
  rotate_left
  · have z1 : (pe == 0) = false := beq_eq_false_iff_ne.2 he0
    have z2 : decide (pe = 0) = false := decide_eq_false he0
    have HBX := Lib.hid H3.out.1
    clear KC H3 HPB CPp CRp HFW CIb SBY
    obtain ⟨⟨r0, r1, r2, r3, r4, r5, r6, r7, r8, r9, r10⟩, q0, q1, q2, q3, q4, q5, q6, q7, q8, q9, q10⟩ := RC.out _ HBX.out
    go_wp2_with fail
    clear r0 r1 r2 r3 r4 r5 r6 r7 r8 r9 r10 q0 q1 q2 q3 q4 q5 q6 q7 q8 q9 q10
    refine (CPx.out _ HBX.out.1).mono ?_
    rintro e w10 ⟨A10, c10, rfl, o10, b10⟩
    have H10 := Lib.hid (HBX.out.step b10)
    have O10 := Lib.hid (own_lower o10 HBX.out.1.size)
    clear b10 o10
    cases xr
    · obtain ⟨rfl, rfl⟩ := HXB.out.1 rfl
      obtain ⟨⟨r0, r1, r2, r3, r4, r5, r6, r7, r8, r9, r10⟩, q0, q1, q2, q3, q4, q5, q6, q7, q8, q9, q10⟩ := RC.out _ H10.out
      go_wp2_with fail
      clear r0 r1 r2 r3 r4 r5 r6 r7 r8 r9 r10 q0 q1 q2 q3 q4 q5 q6 q7 q8 q9 q10
      refine (CRx.out _ H10.out.1).mono ?_
      rintro e w11 ⟨rfl, b11⟩
      have H11 := Lib.hid (H10.out.step b11)
      clear b11
      go_wp2_with fail
      refine (WK.out _ H11.out.1).mono ?_
      rintro e w99 ⟨rfl, b99⟩
      have H99 := Lib.hid (below_next H11.out.1 b99)
      clear b99
      go_wp2_with fail
      go_ret
      exact ⟨rfl, H99.out⟩
    obtain ⟨rfl, rfl⟩ := HXB.out.2 rfl
    obtain ⟨p1, p2, p3, p4, p5, p6, p7⟩ := HX.out rfl
    obtain ⟨m, hm⟩ : ∃ m, xB.length = m := ⟨_, rfl⟩
    rw [hm] at p4 p5 O10 ⊢
    have hcap := own_cap O10.out
    have hby := Bytes.of_own O10.out HLT.out.1
    have HP := Lib.hid (And.intro p1 (And.intro p2 (And.intro p3 (And.intro p6 (And.intro p7 (And.intro hm hby))))))
    clear p1 p2 p3 p6 p7 hm hby
    go_wp2_with fail
    refine (CPs.out _ m c10 w10.heap.size A10 xB H10.out.1 HP.out.2.2.2.2.2.2 (Nat.le_refl _) (by omega)).mono ?_
    rintro e w12 hp
    unfold PsP at hp
    rw [HP.out.1, HP.out.2.1] at hp
    obtain ⟨rfl, b12⟩ := hp
    unfold Rq.V.val Rq.V.cells
    dsimp only
    have K12 : Blk (w12.alloc (.cells #[.int .u8 (k : Int), .int .u32 (id : Int), .int .u8 (pg : Int), .int .u16 (du : Int), .int .u64 (a : Int), .int .u64 (l : Int), .int .u8 (s : Int), .string ky, .string tz, .int .i64 lo, .int .i64 hi] 26)) w12.heap.size 26 #[.int .u8 (k : Int), .int .u32 (id : Int), .int .u8 (pg : Int), .int .u16 (du : Int), .int .u64 (a : Int), .int .u64 (l : Int), .int .u8 (s : Int), .string ky, .string tz, .int .i64 lo, .int .i64 hi] := Blk.new _ _ _
    have c12 := (req_cells (x := ⟨k, id, pg, du, a, l, s, ky, tz, lo, hi⟩) K12).1
    have H12 := Lib.hid (And.intro ((H10.out.step b12).step ((Below.refl _ _).alloc (Nat.le_refl _) (.cells #[.int .u8 (k : Int), .int .u32 (id : Int), .int .u8 (pg : Int), .int .u16 (du : Int), .int .u64 (a : Int), .int .u64 (l : Int), .int .u8 (s : Int), .string ky, .string tz, .int .i64 lo, .int .i64 hi] 26))) (And.intro K12 (own_below (own_below O10.out b12) ((Below.refl _ _).alloc (Nat.le_refl _) (.cells #[.int .u8 (k : Int), .int .u32 (id : Int), .int .u8 (pg : Int), .int .u16 (du : Int), .int .u64 (a : Int), .int .u64 (l : Int), .int .u8 (s : Int), .string ky, .string tz, .int .i64 lo, .int .i64 hi] 26)))))
    clear b12 K12 c12
    have d1 : ¬ (99 : Int) < m := by omega
    have d2 : decide ((99 : Int) < m) = false := decide_eq_false d1
    have d3 : ¬ (m : Int) = 0 := by omega
    have d4 : ((m : Int) == 0) = false := beq_eq_false_iff_ne.2 d3
    go_upto_region 12 with (fail)
    obtain ⟨W12, hW12⟩ : ∃ W, w12.alloc (.cells #[.int .u8 (k : Int), .int .u32 (id : Int), .int .u8 (pg : Int), .int .u16 (du : Int), .int .u64 (a : Int), .int .u64 (l : Int), .int .u8 (s : Int), .string ky, .string tz, .int .i64 lo, .int .i64 hi] 26) = W := ⟨_, rfl⟩
    rw [hW12] at H12 ⊢
    clear hW12
    have C12 : Hid (∀ W, Below W12.heap.size W12 W → (W.cell? ⟨w.heap.size, 0, none⟩ = some (.int .u8 (k : Int)) ∧ W.cell? ⟨w.heap.size, 1, none⟩ = some (.int .u32 (id : Int)) ∧ W.cell? ⟨w.heap.size, 2, none⟩ = some (.int .u8 (pg : Int)) ∧ W.cell? ⟨w.heap.size, 3, none⟩ = some (.int .u16 (du : Int)) ∧ W.cell? ⟨w.heap.size, 4, none⟩ = some (.int .u64 (a : Int)) ∧ W.cell? ⟨w.heap.size, 5, none⟩ = some (.int .u64 (l : Int)) ∧ W.cell? ⟨w.heap.size, 6, none⟩ = some (.int .u8 (s : Int)) ∧ W.cell? ⟨w.heap.size, 7, none⟩ = some (.string ky) ∧ W.cell? ⟨w.heap.size, 8, none⟩ = some (.string tz) ∧ W.cell? ⟨w.heap.size, 9, none⟩ = some (.int .i64 lo) ∧ W.cell? ⟨w.heap.size, 10, none⟩ = some (.int .i64 hi)) ∧ (W.cell? ⟨w12.heap.size, 0, none⟩ = some (.int .u8 (k : Int)) ∧ W.cell? ⟨w12.heap.size, 1, none⟩ = some (.int .u32 (id : Int)) ∧ W.cell? ⟨w12.heap.size, 2, none⟩ = some (.int .u8 (pg : Int)) ∧ W.cell? ⟨w12.heap.size, 3, none⟩ = some (.int .u16 (du : Int)) ∧ W.cell? ⟨w12.heap.size, 4, none⟩ = some (.int .u64 (a : Int)) ∧ W.cell? ⟨w12.heap.size, 5, none⟩ = some (.int .u64 (l : Int)) ∧ W.cell? ⟨w12.heap.size, 6, none⟩ = some (.int .u8 (s : Int)) ∧ W.cell? ⟨w12.heap.size, 7, none⟩ = some (.string ky) ∧ W.cell? ⟨w12.heap.size, 8, none⟩ = some (.string tz) ∧ W.cell? ⟨w12.heap.size, 9, none⟩ = some (.int .i64 lo) ∧ W.cell? ⟨w12.heap.size, 10, none⟩ = some (.int .i64 hi))) := Lib.hid fun W hW => ⟨(RC.out W (H12.out.1.step hW)).1, (req_cells (x := ⟨k, id, pg, du, a, l, s, ky, tz, lo, hi⟩) (H12.out.2.1.below hW H12.out.2.1.lt)).1⟩
    have D0 : Hid (Below W12.heap.size W12 W12.drew) := Lib.hid (Below.refl _ _).drew
    have q := QXX.out
    have g := HG.out
    have hid12 := HP.out.2.2.1
    have CI : Hid (Calls Tryd.prog 21 #[.slice A10 m c10] W12.drew fun e w' => e = .returned (.int .u32 (id : Int)) ∧ Below W12.drew.heap.size W12.drew w') := Lib.hid (by
      have h := CId.out W12.drew m c10 W12.heap.size A10 xB ((Bytes.of_own H12.out.2.2 HLT.out.1).below D0.out (Nat.le_refl _)) (Nat.le_refl _) (by omega) hcap
      rw [hid12] at h
      exact h)
    clear hid12
    go_region_held3 (fun W => (W.cell? ⟨w.heap.size, 0, none⟩ = some (.int .u8 (k : Int)) ∧ W.cell? ⟨w.heap.size, 1, none⟩ = some (.int .u32 (id : Int)) ∧ W.cell? ⟨w.heap.size, 2, none⟩ = some (.int .u8 (pg : Int)) ∧ W.cell? ⟨w.heap.size, 3, none⟩ = some (.int .u16 (du : Int)) ∧ W.cell? ⟨w.heap.size, 4, none⟩ = some (.int .u64 (a : Int)) ∧ W.cell? ⟨w.heap.size, 5, none⟩ = some (.int .u64 (l : Int)) ∧ W.cell? ⟨w.heap.size, 6, none⟩ = some (.int .u8 (s : Int)) ∧ W.cell? ⟨w.heap.size, 7, none⟩ = some (.string ky) ∧ W.cell? ⟨w.heap.size, 8, none⟩ = some (.string tz) ∧ W.cell? ⟨w.heap.size, 9, none⟩ = some (.int .i64 lo) ∧ W.cell? ⟨w.heap.size, 10, none⟩ = some (.int .i64 hi)) ∧ (W.cell? ⟨w12.heap.size, 0, none⟩ = some (.int .u8 (k : Int)) ∧ W.cell? ⟨w12.heap.size, 1, none⟩ = some (.int .u32 (id : Int)) ∧ W.cell? ⟨w12.heap.size, 2, none⟩ = some (.int .u8 (pg : Int)) ∧ W.cell? ⟨w12.heap.size, 3, none⟩ = some (.int .u16 (du : Int)) ∧ W.cell? ⟨w12.heap.size, 4, none⟩ = some (.int .u64 (a : Int)) ∧ W.cell? ⟨w12.heap.size, 5, none⟩ = some (.int .u64 (l : Int)) ∧ W.cell? ⟨w12.heap.size, 6, none⟩ = some (.int .u8 (s : Int)) ∧ W.cell? ⟨w12.heap.size, 7, none⟩ = some (.string ky) ∧ W.cell? ⟨w12.heap.size, 8, none⟩ = some (.string tz) ∧ W.cell? ⟨w12.heap.size, 9, none⟩ = some (.int .i64 lo) ∧ W.cell? ⟨w12.heap.size, 10, none⟩ = some (.int .i64 hi))) (first | with_reducible exact C12.out _ D0.out | with_reducible exact C12.out _ D1.out | fail) (first
      | (go_at_call 21; (with_reducible refine CI.out.mono ?_); rintro e w13 ⟨rfl, b13⟩; have D1 := Lib.hid (below_next D0.out b13); clear b13))
    clear q
    have H13 := Lib.hid (And.intro (H12.out.1.step D1.out) (own_below H12.out.2.2 D1.out))
    clear CI C12 D0
    obtain ⟨⟨r0, r1, r2, r3, r4, r5, r6, r7, r8, r9, r10⟩, q0, q1, q2, q3, q4, q5, q6, q7, q8, q9, q10⟩ := RC.out _ H13.out.1
    go_wp2_with fail
    clear r0 r1 r2 r3 r4 r5 r6 r7 r8 r9 r10 q0 q1 q2 q3 q4 q5 q6 q7 q8 q9 q10
    refine (CPy.out _ H13.out.1.1).mono ?_
    rintro e w14 ⟨A14, c14, rfl, o14, b14⟩
    have H14 := Lib.hid (And.intro (H13.out.1.step b14) (And.intro (own_below H13.out.2 b14) o14))
    clear b14 o14
    obtain ⟨m2, hm2⟩ : ∃ m, yB.length = m := ⟨_, rfl⟩
    rw [hm2] at hyl H14 ⊢
    have HM2 := Lib.hid hm2
    clear hm2
    go_upto_region 15 with (fail)
    go_cut [144] (fun v wx => v = .bool false ∧ Below w14.heap.size w14 wx)
    case first =>
      cases yr
      · obtain ⟨hy1, rfl⟩ := HYB.out.1 rfl
        go_wp2_with fail
        go_meet
        case rel => exact ⟨rfl, Below.refl _ _⟩
      · obtain ⟨hy1, rfl⟩ := HYB.out.2 rfl
        by_cases hle : m ≤ m2
        rotate_left
        · have e1 : ¬ (m : Int) ≤ m2 := by omega
          have e2 : decide ((m : Int) ≤ m2) = false := decide_eq_false e1
          go_wp2_with fail
          go_meet
          case rel => exact ⟨rfl, Below.refl _ _⟩
        · have e1 : (m : Int) ≤ m2 := by omega
          have e2 : decide ((m : Int) ≤ m2) = true := decide_eq_true e1
          have hyB : ∀ z ∈ yB, z < 256 := by rw [hy1]; exact HLT.out.2
          have hc14 := own_cap H14.out.2.2
          have hcut := run_cut_h (P := Tryd.prog) 29 5 iu Tryd.underlying29 HU.out.1 A14 m2 c14 m (by omega)
          have HB1 := Lib.hid ((Bytes.of_own H14.out.2.2 hyB).head hle)
          have HB2 := Lib.hid (Bytes.of_own H14.out.2.1 HLT.out.1)
          by_cases hsame : yB.take m = xB
          · have hq : qe = true := HAP.out (by first | rfl | trivial) (by first | rfl | trivial) (yB.drop m) (by rw [← hy1, ← hsame, List.take_append_drop])
            subst hq
            rw [hsame] at HB1
            clear hyB hc14 hsame hy1
            go_wp2_with fail
            refine (same_b9 HB1.out HB2.out (by omega)).mono ?_
            rintro e w15 ⟨rfl, b15⟩
            have S15 := H14.out.1.step b15
            have D15 := Lib.hid b15
            obtain ⟨⟨r0, r1, r2, r3, r4, r5, r6, r7, r8, r9, r10⟩, q0, q1, q2, q3, q4, q5, q6, q7, q8, q9, q10⟩ := RC.out _ S15
            have q := QXY.out
            clear b15 S15
            go_wp2_with fail
            go_meet
            case rel => exact ⟨rfl, D15.out⟩
          · clear hyB hc14 hy1
            go_wp2_with fail
            refine (same_no HB1.out HB2.out (by omega) hsame).mono ?_
            rintro e w15 ⟨rfl, b15⟩
            have D15 := Lib.hid b15
            clear b15
            go_wp2_with fail
            go_meet
            case rel => exact ⟨rfl, D15.out⟩
    case rest =>
    obtain ⟨rfl, hx⟩ := hcut
    have H16 := Lib.hid (And.intro (H14.out.1.step hx).1 (own_below H14.out.2.1 hx))
    clear hx g
    have hcut := run_cut_h (P := Tryd.prog) 29 5 iu Tryd.underlying29 HU.out.1 A10 m c10 (m - 1) (by omega)
    have hm1 : ((m - 1 : Nat) : Int) = (m : Int) - 1 := by omega
    rw [hm1] at hcut
    have hwm : IntKind.i64.wrap ((m : Int) - 1) = (m : Int) - 1 := by rw [IntKind.wrap_i64]; omega
    have hdl : xB.dropLast = xB.take (m - 1) := by rw [List.dropLast_eq_take, HP.out.2.2.2.2.2.1]
    have hp7 := HP.out.2.2.2.2.1
    rw [hdl] at hp7
    have H17 := Lib.hid (And.intro hp7 ((Bytes.of_own H16.out.2 HLT.out.1).head (j := m - 1) (by omega)))
    clear hm1 hdl hp7
    go_wp2_with fail
    clear hcut hwm
    refine (CPs.out _ (m - 1) c10 _ A10 _ H16.out.1 H17.out.2 (Nat.le_refl _) (by omega)).mono ?_
    rintro e w18 hp
    unfold PsP at hp
    have h20 : Rq.psx (xB.take (m - 1)) = Rq.only 0 0 := if_neg (by rw [H17.out.1]; decide)
    rw [H17.out.1, h20] at hp
    obtain ⟨rfl, b18⟩ := hp
    unfold Rq.only Rq.V.val Rq.V.cells
    dsimp only
    have b18' := b18.alloc b18.size (.cells #[.int .u8 0, .int .u32 0, .int .u8 0, .int .u16 0, .int .u64 0, .int .u64 0, .int .u8 0, .string ⟨#[]⟩, .string ⟨#[]⟩, .int .i64 0, .int .i64 0] 26)
    have H18 := Lib.hid (And.intro (below_next H16.out.1 b18') (own_below H16.out.2 b18'))
    clear h20 b18 b18'
    have H19 := Lib.hid (And.intro (H18.out.1.alloc H18.out.1.size (.cells #[.int .u8 0] 5)) (own_below H18.out.2 ((Below.refl _ _).alloc (Nat.le_refl _) (.cells #[.int .u8 0] 5))))
    have O19 := Lib.hid (one_cell (w18.alloc (.cells #[.int .u8 0, .int .u32 0, .int .u8 0, .int .u16 0, .int .u64 0, .int .u64 0, .int .u8 0, .string ⟨#[]⟩, .string ⟨#[]⟩, .int .i64 0, .int .i64 0] 26)) 5 (.int .u8 0))
    have hz19 := H19.out.1.size
    go_wp2_with (at_builtin; refine wpList_append_lies _ rfl _ _ 29 rfl w.heap.size 5 iu (.int .u8 0) 1 1 Tryd.underlying29 HU.out.1 HU.out.2.1 HU.out.2.2.1 HU.out.2.2.2 rfl (by decide) _ m (u8s xB) rfl H19.out.2 ⟨w18.heap.size + 1, 0, none⟩ 1 1 [.int .u8 0] rfl rfl (by have h := O19.out; simp only [World.size_alloc] at h; exact h) (by simp [Value.oneCell']) (by omega) (by unfold maxLen; omega) (by omega) hz19 _ rfl ?_; intro g20 cap20 w20 hown hgrow _ _; have B20 := Lib.hid (H19.out.1.grown hgrow hz19 (fun k hk => (H19.out.2.lt k hk).1)); have O20 : Hid (w20.ownsRow w.heap.size 5 1 (.slice (some ⟨g20, 0, none⟩) (m + 1) cap20) (m + 1) (u8s (xB ++ [0]))) := Lib.hid (by rw [← u8s_append]; exact hown); clear hown hgrow)
    refine (CPs.out _ (m + 1) cap20 w20.heap.size (some ⟨g20, 0, none⟩) (xB ++ [0]) B20.out (Bytes.of_own O20.out (fun z hz => by
      rcases List.mem_append.1 hz with h | h
      · exact HLT.out.1 z h
      · rw [List.mem_singleton.1 h]; omega)) (Nat.le_refl _) (by omega)).mono ?_
    rintro e w21 hp
    unfold PsP at hp
    have h21 : Rq.psx (xB ++ [0]) = Rq.only 0 0 := if_neg (by rw [HP.out.2.2.2.1]; decide)
    rw [HP.out.2.2.2.1, h21] at hp
    obtain ⟨rfl, b21⟩ := hp
    unfold Rq.only Rq.V.val Rq.V.cells
    dsimp only
    have H21 := Lib.hid ((below_next B20.out b21).alloc (Nat.le_trans B20.out.size b21.size) (.cells #[.int .u8 0, .int .u32 0, .int .u8 0, .int .u16 0, .int .u64 0, .int .u64 0, .int .u8 0, .string ⟨#[]⟩, .string ⟨#[]⟩, .int .i64 0, .int .i64 0] 26))
    clear h21 b21
    go_wp2_with fail
    refine (WK.out _ H21.out).mono ?_
    rintro e w99 ⟨rfl, b99⟩
    have H99 := Lib.hid (below_next H21.out b99)
    clear b99
    go_wp2_with fail
    go_ret
    exact ⟨rfl, H99.out⟩
  subst he0
  obtain ⟨g1, g2, g3, g4⟩ := HFW.out rfl
  have CPq := Lib.hid (CPp.out g4 (HPB.out g1) g2)
  have CRq := Lib.hid (CRp.out g4 g1)
  have CIq := Lib.hid (CIb.out g3)
  clear HFW CPp CRp HPB CIb g1 g2 g3 g4
  obtain ⟨r0, r1, r2, r3, r4, r5, r6, r7, r8, r9, r10⟩ := KC.out _ H3.out.2
  go_wp2_with fail
  clear r0 r1 r2 r3 r4 r5 r6 r7 r8 r9 r10
  refine (CPq.out _ H3.out.1.1).mono ?_
  rintro e w4 ⟨A4, c4, rfl, o4, b4⟩
  rw [hblen] at o4 ⊢
  have K4 := H3.out.2.below b4 H3.out.2.lt
  have H4 := Lib.hid (And.intro (H3.out.1.step b4) (And.intro K4 o4))
  clear b4 o4 K4
  go_upto_region 6 with (fail)
  have C4 : Hid (∀ W, Below w4.heap.size w4 W → W.cell? ⟨w3.heap.size, 0, none⟩ = some (.int .u8 (pk : Int)) ∧ W.cell? ⟨w3.heap.size, 1, none⟩ = some (.int .u32 (pid : Int)) ∧ W.cell? ⟨w3.heap.size, 2, none⟩ = some (.int .u8 (ppg : Int)) ∧ W.cell? ⟨w3.heap.size, 3, none⟩ = some (.int .u16 (pdu : Int)) ∧ W.cell? ⟨w3.heap.size, 4, none⟩ = some (.int .u64 (pa : Int)) ∧ W.cell? ⟨w3.heap.size, 5, none⟩ = some (.int .u64 (pl : Int)) ∧ W.cell? ⟨w3.heap.size, 6, none⟩ = some (.int .u8 (ps : Int)) ∧ W.cell? ⟨w3.heap.size, 7, none⟩ = some (.string pky) ∧ W.cell? ⟨w3.heap.size, 8, none⟩ = some (.string ptz) ∧ W.cell? ⟨w3.heap.size, 9, none⟩ = some (.int .i64 plo) ∧ W.cell? ⟨w3.heap.size, 10, none⟩ = some (.int .i64 phi)) := Lib.hid fun W hW => KC.out W (H4.out.2.1.below hW H4.out.2.1.lt)
  have D0 : Hid (Below w4.heap.size w4 w4.drew) := Lib.hid (Below.refl _ _).drew
  have SB := Lib.hid (SBY.out w4.drew A4 c4 _ (H4.out.1.step D0.out).1 (own_below H4.out.2.2 D0.out))
  have V4 : Hid (∀ W, Below w4.heap.size w4 W → Below w.heap.size w W) := Lib.hid fun W hW => (H4.out.1.step hW).1
  go_region_held3 (fun W => W.cell? ⟨w3.heap.size, 0, none⟩ = some (.int .u8 (pk : Int)) ∧ W.cell? ⟨w3.heap.size, 1, none⟩ = some (.int .u32 (pid : Int)) ∧ W.cell? ⟨w3.heap.size, 2, none⟩ = some (.int .u8 (ppg : Int)) ∧ W.cell? ⟨w3.heap.size, 3, none⟩ = some (.int .u16 (pdu : Int)) ∧ W.cell? ⟨w3.heap.size, 4, none⟩ = some (.int .u64 (pa : Int)) ∧ W.cell? ⟨w3.heap.size, 5, none⟩ = some (.int .u64 (pl : Int)) ∧ W.cell? ⟨w3.heap.size, 6, none⟩ = some (.int .u8 (ps : Int)) ∧ W.cell? ⟨w3.heap.size, 7, none⟩ = some (.string pky) ∧ W.cell? ⟨w3.heap.size, 8, none⟩ = some (.string ptz) ∧ W.cell? ⟨w3.heap.size, 9, none⟩ = some (.int .i64 plo) ∧ W.cell? ⟨w3.heap.size, 10, none⟩ = some (.int .i64 phi)) (first | with_reducible exact C4.out _ D0.out | with_reducible exact C4.out _ D1.out | with_reducible exact C4.out _ D2.out | with_reducible exact C4.out _ D3.out | fail) (first
    | (go_at_call 12; (with_reducible refine SB.out.mono ?_); rintro e w5 ⟨rfl, b5⟩; have D1 := Lib.hid (below_next D0.out b5); clear b5)
    | (go_at_call 14; (with_reducible refine (CRq.out _ (V4.out _ D1.out)).mono ?_); rintro e w6 ⟨rfl, b6⟩; have D2 := Lib.hid (below_next D1.out b6); clear b6)
    | (go_at_call 21; (with_reducible refine (CIq.out _ (V4.out _ D2.out)).mono ?_); rintro e w7 ⟨rfl, b7⟩; have D3 := Lib.hid (below_next D2.out b7); clear b7))
  have HBX := Lib.hid (H4.out.1.step D3.out)
  clear KC H3 H4 C4 D0 SB V4 CPq CRq CIq SBY D1 D2 D3
  obtain ⟨⟨r0, r1, r2, r3, r4, r5, r6, r7, r8, r9, r10⟩, q0, q1, q2, q3, q4, q5, q6, q7, q8, q9, q10⟩ := RC.out _ HBX.out
  go_wp2_with fail
  clear r0 r1 r2 r3 r4 r5 r6 r7 r8 r9 r10 q0 q1 q2 q3 q4 q5 q6 q7 q8 q9 q10
  refine (CPx.out _ HBX.out.1).mono ?_
  rintro e w10 ⟨A10, c10, rfl, o10, b10⟩
  have H10 := Lib.hid (HBX.out.step b10)
  have O10 := Lib.hid (own_lower o10 HBX.out.1.size)
  clear b10 o10
  cases xr
  · obtain ⟨rfl, rfl⟩ := HXB.out.1 rfl
    obtain ⟨⟨r0, r1, r2, r3, r4, r5, r6, r7, r8, r9, r10⟩, q0, q1, q2, q3, q4, q5, q6, q7, q8, q9, q10⟩ := RC.out _ H10.out
    go_wp2_with fail
    clear r0 r1 r2 r3 r4 r5 r6 r7 r8 r9 r10 q0 q1 q2 q3 q4 q5 q6 q7 q8 q9 q10
    refine (CRx.out _ H10.out.1).mono ?_
    rintro e w11 ⟨rfl, b11⟩
    have H11 := Lib.hid (H10.out.step b11)
    clear b11
    go_wp2_with fail
    refine (WK.out _ H11.out.1).mono ?_
    rintro e w99 ⟨rfl, b99⟩
    have H99 := Lib.hid (below_next H11.out.1 b99)
    clear b99
    go_wp2_with fail
    go_ret
    exact ⟨rfl, H99.out⟩
  obtain ⟨rfl, rfl⟩ := HXB.out.2 rfl
  obtain ⟨p1, p2, p3, p4, p5, p6, p7⟩ := HX.out rfl
  obtain ⟨m, hm⟩ : ∃ m, xB.length = m := ⟨_, rfl⟩
  rw [hm] at p4 p5 O10 ⊢
  have hcap := own_cap O10.out
  have hby := Bytes.of_own O10.out HLT.out.1
  have HP := Lib.hid (And.intro p1 (And.intro p2 (And.intro p3 (And.intro p6 (And.intro p7 (And.intro hm hby))))))
  clear p1 p2 p3 p6 p7 hm hby
  go_wp2_with fail
  refine (CPs.out _ m c10 w10.heap.size A10 xB H10.out.1 HP.out.2.2.2.2.2.2 (Nat.le_refl _) (by omega)).mono ?_
  rintro e w12 hp
  unfold PsP at hp
  rw [HP.out.1, HP.out.2.1] at hp
  obtain ⟨rfl, b12⟩ := hp
  unfold Rq.V.val Rq.V.cells
  dsimp only
  have K12 : Blk (w12.alloc (.cells #[.int .u8 (k : Int), .int .u32 (id : Int), .int .u8 (pg : Int), .int .u16 (du : Int), .int .u64 (a : Int), .int .u64 (l : Int), .int .u8 (s : Int), .string ky, .string tz, .int .i64 lo, .int .i64 hi] 26)) w12.heap.size 26 #[.int .u8 (k : Int), .int .u32 (id : Int), .int .u8 (pg : Int), .int .u16 (du : Int), .int .u64 (a : Int), .int .u64 (l : Int), .int .u8 (s : Int), .string ky, .string tz, .int .i64 lo, .int .i64 hi] := Blk.new _ _ _
  have c12 := (req_cells (x := ⟨k, id, pg, du, a, l, s, ky, tz, lo, hi⟩) K12).1
  have H12 := Lib.hid (And.intro ((H10.out.step b12).step ((Below.refl _ _).alloc (Nat.le_refl _) (.cells #[.int .u8 (k : Int), .int .u32 (id : Int), .int .u8 (pg : Int), .int .u16 (du : Int), .int .u64 (a : Int), .int .u64 (l : Int), .int .u8 (s : Int), .string ky, .string tz, .int .i64 lo, .int .i64 hi] 26))) (And.intro K12 (own_below (own_below O10.out b12) ((Below.refl _ _).alloc (Nat.le_refl _) (.cells #[.int .u8 (k : Int), .int .u32 (id : Int), .int .u8 (pg : Int), .int .u16 (du : Int), .int .u64 (a : Int), .int .u64 (l : Int), .int .u8 (s : Int), .string ky, .string tz, .int .i64 lo, .int .i64 hi] 26)))))
  clear b12 K12 c12
  have d1 : ¬ (99 : Int) < m := by omega
  have d2 : decide ((99 : Int) < m) = false := decide_eq_false d1
  have d3 : ¬ (m : Int) = 0 := by omega
  have d4 : ((m : Int) == 0) = false := beq_eq_false_iff_ne.2 d3
  go_upto_region 12 with (fail)
  obtain ⟨W12, hW12⟩ : ∃ W, w12.alloc (.cells #[.int .u8 (k : Int), .int .u32 (id : Int), .int .u8 (pg : Int), .int .u16 (du : Int), .int .u64 (a : Int), .int .u64 (l : Int), .int .u8 (s : Int), .string ky, .string tz, .int .i64 lo, .int .i64 hi] 26) = W := ⟨_, rfl⟩
  rw [hW12] at H12 ⊢
  clear hW12
  have C12 : Hid (∀ W, Below W12.heap.size W12 W → (W.cell? ⟨w.heap.size, 0, none⟩ = some (.int .u8 (k : Int)) ∧ W.cell? ⟨w.heap.size, 1, none⟩ = some (.int .u32 (id : Int)) ∧ W.cell? ⟨w.heap.size, 2, none⟩ = some (.int .u8 (pg : Int)) ∧ W.cell? ⟨w.heap.size, 3, none⟩ = some (.int .u16 (du : Int)) ∧ W.cell? ⟨w.heap.size, 4, none⟩ = some (.int .u64 (a : Int)) ∧ W.cell? ⟨w.heap.size, 5, none⟩ = some (.int .u64 (l : Int)) ∧ W.cell? ⟨w.heap.size, 6, none⟩ = some (.int .u8 (s : Int)) ∧ W.cell? ⟨w.heap.size, 7, none⟩ = some (.string ky) ∧ W.cell? ⟨w.heap.size, 8, none⟩ = some (.string tz) ∧ W.cell? ⟨w.heap.size, 9, none⟩ = some (.int .i64 lo) ∧ W.cell? ⟨w.heap.size, 10, none⟩ = some (.int .i64 hi)) ∧ (W.cell? ⟨w12.heap.size, 0, none⟩ = some (.int .u8 (k : Int)) ∧ W.cell? ⟨w12.heap.size, 1, none⟩ = some (.int .u32 (id : Int)) ∧ W.cell? ⟨w12.heap.size, 2, none⟩ = some (.int .u8 (pg : Int)) ∧ W.cell? ⟨w12.heap.size, 3, none⟩ = some (.int .u16 (du : Int)) ∧ W.cell? ⟨w12.heap.size, 4, none⟩ = some (.int .u64 (a : Int)) ∧ W.cell? ⟨w12.heap.size, 5, none⟩ = some (.int .u64 (l : Int)) ∧ W.cell? ⟨w12.heap.size, 6, none⟩ = some (.int .u8 (s : Int)) ∧ W.cell? ⟨w12.heap.size, 7, none⟩ = some (.string ky) ∧ W.cell? ⟨w12.heap.size, 8, none⟩ = some (.string tz) ∧ W.cell? ⟨w12.heap.size, 9, none⟩ = some (.int .i64 lo) ∧ W.cell? ⟨w12.heap.size, 10, none⟩ = some (.int .i64 hi))) := Lib.hid fun W hW => ⟨(RC.out W (H12.out.1.step hW)).1, (req_cells (x := ⟨k, id, pg, du, a, l, s, ky, tz, lo, hi⟩) (H12.out.2.1.below hW H12.out.2.1.lt)).1⟩
  have D0 : Hid (Below W12.heap.size W12 W12.drew) := Lib.hid (Below.refl _ _).drew
  have q := QXX.out
  have g := HG.out
  have hid12 := HP.out.2.2.1
  have CI : Hid (Calls Tryd.prog 21 #[.slice A10 m c10] W12.drew fun e w' => e = .returned (.int .u32 (id : Int)) ∧ Below W12.drew.heap.size W12.drew w') := Lib.hid (by
    have h := CId.out W12.drew m c10 W12.heap.size A10 xB ((Bytes.of_own H12.out.2.2 HLT.out.1).below D0.out (Nat.le_refl _)) (Nat.le_refl _) (by omega) hcap
    rw [hid12] at h
    exact h)
  clear hid12
  go_region_held3 (fun W => (W.cell? ⟨w.heap.size, 0, none⟩ = some (.int .u8 (k : Int)) ∧ W.cell? ⟨w.heap.size, 1, none⟩ = some (.int .u32 (id : Int)) ∧ W.cell? ⟨w.heap.size, 2, none⟩ = some (.int .u8 (pg : Int)) ∧ W.cell? ⟨w.heap.size, 3, none⟩ = some (.int .u16 (du : Int)) ∧ W.cell? ⟨w.heap.size, 4, none⟩ = some (.int .u64 (a : Int)) ∧ W.cell? ⟨w.heap.size, 5, none⟩ = some (.int .u64 (l : Int)) ∧ W.cell? ⟨w.heap.size, 6, none⟩ = some (.int .u8 (s : Int)) ∧ W.cell? ⟨w.heap.size, 7, none⟩ = some (.string ky) ∧ W.cell? ⟨w.heap.size, 8, none⟩ = some (.string tz) ∧ W.cell? ⟨w.heap.size, 9, none⟩ = some (.int .i64 lo) ∧ W.cell? ⟨w.heap.size, 10, none⟩ = some (.int .i64 hi)) ∧ (W.cell? ⟨w12.heap.size, 0, none⟩ = some (.int .u8 (k : Int)) ∧ W.cell? ⟨w12.heap.size, 1, none⟩ = some (.int .u32 (id : Int)) ∧ W.cell? ⟨w12.heap.size, 2, none⟩ = some (.int .u8 (pg : Int)) ∧ W.cell? ⟨w12.heap.size, 3, none⟩ = some (.int .u16 (du : Int)) ∧ W.cell? ⟨w12.heap.size, 4, none⟩ = some (.int .u64 (a : Int)) ∧ W.cell? ⟨w12.heap.size, 5, none⟩ = some (.int .u64 (l : Int)) ∧ W.cell? ⟨w12.heap.size, 6, none⟩ = some (.int .u8 (s : Int)) ∧ W.cell? ⟨w12.heap.size, 7, none⟩ = some (.string ky) ∧ W.cell? ⟨w12.heap.size, 8, none⟩ = some (.string tz) ∧ W.cell? ⟨w12.heap.size, 9, none⟩ = some (.int .i64 lo) ∧ W.cell? ⟨w12.heap.size, 10, none⟩ = some (.int .i64 hi))) (first | with_reducible exact C12.out _ D0.out | with_reducible exact C12.out _ D1.out | fail) (first
    | (go_at_call 21; (with_reducible refine CI.out.mono ?_); rintro e w13 ⟨rfl, b13⟩; have D1 := Lib.hid (below_next D0.out b13); clear b13))
  clear q
  have H13 := Lib.hid (And.intro (H12.out.1.step D1.out) (own_below H12.out.2.2 D1.out))
  clear CI C12 D0
  obtain ⟨⟨r0, r1, r2, r3, r4, r5, r6, r7, r8, r9, r10⟩, q0, q1, q2, q3, q4, q5, q6, q7, q8, q9, q10⟩ := RC.out _ H13.out.1
  go_wp2_with fail
  clear r0 r1 r2 r3 r4 r5 r6 r7 r8 r9 r10 q0 q1 q2 q3 q4 q5 q6 q7 q8 q9 q10
  refine (CPy.out _ H13.out.1.1).mono ?_
  rintro e w14 ⟨A14, c14, rfl, o14, b14⟩
  have H14 := Lib.hid (And.intro (H13.out.1.step b14) (And.intro (own_below H13.out.2 b14) o14))
  clear b14 o14
  obtain ⟨m2, hm2⟩ : ∃ m, yB.length = m := ⟨_, rfl⟩
  rw [hm2] at hyl H14 ⊢
  have HM2 := Lib.hid hm2
  clear hm2
  go_upto_region 15 with (fail)
  go_cut [144] (fun v wx => v = .bool false ∧ Below w14.heap.size w14 wx)
  case first =>
    cases yr
    · obtain ⟨hy1, rfl⟩ := HYB.out.1 rfl
      go_wp2_with fail
      go_meet
      case rel => exact ⟨rfl, Below.refl _ _⟩
    · obtain ⟨hy1, rfl⟩ := HYB.out.2 rfl
      by_cases hle : m ≤ m2
      rotate_left
      · have e1 : ¬ (m : Int) ≤ m2 := by omega
        have e2 : decide ((m : Int) ≤ m2) = false := decide_eq_false e1
        go_wp2_with fail
        go_meet
        case rel => exact ⟨rfl, Below.refl _ _⟩
      · have e1 : (m : Int) ≤ m2 := by omega
        have e2 : decide ((m : Int) ≤ m2) = true := decide_eq_true e1
        have hyB : ∀ z ∈ yB, z < 256 := by rw [hy1]; exact HLT.out.2
        have hc14 := own_cap H14.out.2.2
        have hcut := run_cut_h (P := Tryd.prog) 29 5 iu Tryd.underlying29 HU.out.1 A14 m2 c14 m (by omega)
        have HB1 := Lib.hid ((Bytes.of_own H14.out.2.2 hyB).head hle)
        have HB2 := Lib.hid (Bytes.of_own H14.out.2.1 HLT.out.1)
        by_cases hsame : yB.take m = xB
        · have hq : qe = true := HAP.out (by first | rfl | trivial) (by first | rfl | trivial) (yB.drop m) (by rw [← hy1, ← hsame, List.take_append_drop])
          subst hq
          rw [hsame] at HB1
          clear hyB hc14 hsame hy1
          go_wp2_with fail
          refine (same_b9 HB1.out HB2.out (by omega)).mono ?_
          rintro e w15 ⟨rfl, b15⟩
          have S15 := H14.out.1.step b15
          have D15 := Lib.hid b15
          obtain ⟨⟨r0, r1, r2, r3, r4, r5, r6, r7, r8, r9, r10⟩, q0, q1, q2, q3, q4, q5, q6, q7, q8, q9, q10⟩ := RC.out _ S15
          have q := QXY.out
          clear b15 S15
          go_wp2_with fail
          go_meet
          case rel => exact ⟨rfl, D15.out⟩
        · clear hyB hc14 hy1
          go_wp2_with fail
          refine (same_no HB1.out HB2.out (by omega) hsame).mono ?_
          rintro e w15 ⟨rfl, b15⟩
          have D15 := Lib.hid b15
          clear b15
          go_wp2_with fail
          go_meet
          case rel => exact ⟨rfl, D15.out⟩
  case rest =>
  obtain ⟨rfl, hx⟩ := hcut
  have H16 := Lib.hid (And.intro (H14.out.1.step hx).1 (own_below H14.out.2.1 hx))
  clear hx g
  have hcut := run_cut_h (P := Tryd.prog) 29 5 iu Tryd.underlying29 HU.out.1 A10 m c10 (m - 1) (by omega)
  have hm1 : ((m - 1 : Nat) : Int) = (m : Int) - 1 := by omega
  rw [hm1] at hcut
  have hwm : IntKind.i64.wrap ((m : Int) - 1) = (m : Int) - 1 := by rw [IntKind.wrap_i64]; omega
  have hdl : xB.dropLast = xB.take (m - 1) := by rw [List.dropLast_eq_take, HP.out.2.2.2.2.2.1]
  have hp7 := HP.out.2.2.2.2.1
  rw [hdl] at hp7
  have H17 := Lib.hid (And.intro hp7 ((Bytes.of_own H16.out.2 HLT.out.1).head (j := m - 1) (by omega)))
  clear hm1 hdl hp7
  go_wp2_with fail
  clear hcut hwm
  refine (CPs.out _ (m - 1) c10 _ A10 _ H16.out.1 H17.out.2 (Nat.le_refl _) (by omega)).mono ?_
  rintro e w18 hp
  unfold PsP at hp
  have h20 : Rq.psx (xB.take (m - 1)) = Rq.only 0 0 := if_neg (by rw [H17.out.1]; decide)
  rw [H17.out.1, h20] at hp
  obtain ⟨rfl, b18⟩ := hp
  unfold Rq.only Rq.V.val Rq.V.cells
  dsimp only
  have b18' := b18.alloc b18.size (.cells #[.int .u8 0, .int .u32 0, .int .u8 0, .int .u16 0, .int .u64 0, .int .u64 0, .int .u8 0, .string ⟨#[]⟩, .string ⟨#[]⟩, .int .i64 0, .int .i64 0] 26)
  have H18 := Lib.hid (And.intro (below_next H16.out.1 b18') (own_below H16.out.2 b18'))
  clear h20 b18 b18'
  have H19 := Lib.hid (And.intro (H18.out.1.alloc H18.out.1.size (.cells #[.int .u8 0] 5)) (own_below H18.out.2 ((Below.refl _ _).alloc (Nat.le_refl _) (.cells #[.int .u8 0] 5))))
  have O19 := Lib.hid (one_cell (w18.alloc (.cells #[.int .u8 0, .int .u32 0, .int .u8 0, .int .u16 0, .int .u64 0, .int .u64 0, .int .u8 0, .string ⟨#[]⟩, .string ⟨#[]⟩, .int .i64 0, .int .i64 0] 26)) 5 (.int .u8 0))
  have hz19 := H19.out.1.size
  go_wp2_with (at_builtin; refine wpList_append_lies _ rfl _ _ 29 rfl w.heap.size 5 iu (.int .u8 0) 1 1 Tryd.underlying29 HU.out.1 HU.out.2.1 HU.out.2.2.1 HU.out.2.2.2 rfl (by decide) _ m (u8s xB) rfl H19.out.2 ⟨w18.heap.size + 1, 0, none⟩ 1 1 [.int .u8 0] rfl rfl (by have h := O19.out; simp only [World.size_alloc] at h; exact h) (by simp [Value.oneCell']) (by omega) (by unfold maxLen; omega) (by omega) hz19 _ rfl ?_; intro g20 cap20 w20 hown hgrow _ _; have B20 := Lib.hid (H19.out.1.grown hgrow hz19 (fun k hk => (H19.out.2.lt k hk).1)); have O20 : Hid (w20.ownsRow w.heap.size 5 1 (.slice (some ⟨g20, 0, none⟩) (m + 1) cap20) (m + 1) (u8s (xB ++ [0]))) := Lib.hid (by rw [← u8s_append]; exact hown); clear hown hgrow)
  refine (CPs.out _ (m + 1) cap20 w20.heap.size (some ⟨g20, 0, none⟩) (xB ++ [0]) B20.out (Bytes.of_own O20.out (fun z hz => by
    rcases List.mem_append.1 hz with h | h
    · exact HLT.out.1 z h
    · rw [List.mem_singleton.1 h]; omega)) (Nat.le_refl _) (by omega)).mono ?_
  rintro e w21 hp
  unfold PsP at hp
  have h21 : Rq.psx (xB ++ [0]) = Rq.only 0 0 := if_neg (by rw [HP.out.2.2.2.1]; decide)
  rw [HP.out.2.2.2.1, h21] at hp
  obtain ⟨rfl, b21⟩ := hp
  unfold Rq.only Rq.V.val Rq.V.cells
  dsimp only
  have H21 := Lib.hid ((below_next B20.out b21).alloc (Nat.le_trans B20.out.size b21.size) (.cells #[.int .u8 0, .int .u32 0, .int .u8 0, .int .u16 0, .int .u64 0, .int .u64 0, .int .u8 0, .string ⟨#[]⟩, .string ⟨#[]⟩, .int .i64 0, .int .i64 0] 26))
  clear h21 b21
  go_wp2_with fail
  refine (WK.out _ H21.out).mono ?_
  rintro e w99 ⟨rfl, b99⟩
  have H99 := Lib.hid (below_next H21.out b99)
  clear b99
  go_wp2_with fail
  go_ret
  exact ⟨rfl, H99.out⟩
end Go.Proofs.YtgailpljcobabaaDoor
