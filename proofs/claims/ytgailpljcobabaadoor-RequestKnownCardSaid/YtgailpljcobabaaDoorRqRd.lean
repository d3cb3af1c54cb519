/- Layer 9's reference: Parse, kind by kind (5). Made by tools/gen/rqr.py. -/
import Derived.Test.YtgailpljcobabaaDoorRqQ
import Derived.Test.YtgailpljcobabaaDoorRqJ
import Derived.Deep.DeepCutAuto
namespace Go.Proofs.YtgailpljcobabaaDoor
open Go.ChangeShapes Go.WideShapes Go.ChangeAt Go.RowKit

set_option maxRecDepth 100000 in
set_option maxHeartbeats 4000000 in
theorem refParse9_5 (n c B : Nat) (A : Option Addr) (b : List Nat) (w : World) (hb : Bytes w B A n b) (hB : B ≤ w.heap.size) (hn : n ≤ 1000000) (hnc : n ≤ c) (h0 : 0 < n) (hy : b.getD 0 0 = 5) (htag : Rq.tag b = false) (hk : Rq.vl (b, false) 1 = 5) : Calls Tryd.prog 20 #[.slice A n c] w (PsP w b) := by
  obtain ⟨W1, hW1⟩ : ∃ W, w.alloc (.cells #[.int .u8 0, .int .u32 0, .int .u8 0, .int .u16 0, .int .u64 0, .int .u64 0, .int .u8 0, .string ⟨#[]⟩, .string ⟨#[]⟩, .int .i64 0, .int .i64 0] 33) = W := ⟨_, rfl⟩
  have B1 : Below w.heap.size w W1 := by
    rw [← hW1]
    exact (Below.refl _ _).alloc (Nat.le_refl _) _
  have K1 : Blk W1 w.heap.size 33 #[.int .u8 0, .int .u32 0, .int .u8 0, .int .u16 0, .int .u64 0, .int .u64 0, .int .u8 0, .string ⟨#[]⟩, .string ⟨#[]⟩, .int .i64 0, .int .i64 0] := by
    rw [← hW1]
    exact Blk.new w _ _
  have HBY := Lib.hid (And.intro (hb.below B1 hB) (Nat.le_trans hB B1.size))
  have hlen := hb.1
  have h256 := hb.2.1
  have hpse : Rq.pse b = (Rq.fin b).err := if_neg (by rw [htag]; decide)
  obtain ⟨bb, off, rfl, hbb, hc⟩ := hb.2.2 h0
  have hc0 := hc 0 h0
  rw [Nat.add_zero, hy] at hc0
  have d0 : W1.cell? ⟨bb, off, none⟩ = some (.int .u8 5) := (B1.cell (p := ⟨bb, off, none⟩) (by show bb < w.heap.size; omega)).trans hc0
  have i1 : (0 : Int) < n := by omega
  clear hc hc0 hbb hy h0
  have hok : Rq.St.ok (b, false) := h256
  obtain ⟨s1, hs1⟩ : ∃ s, Rq.nx (b, false) 1 = s := ⟨_, rfl⟩
  have o1 : Rq.St.ok s1 := hs1 ▸ Rq.nx_ok hok 1
  obtain ⟨id, hid⟩ : ∃ v, Rq.vl s1 4 = v := ⟨_, rfl⟩
  have lid : id < 256 ^ 4 := hid ▸ Rq.vl_lt o1 4
  have cid : (id : Int) % 4294967296 = id := Int.emod_eq_of_lt (by omega) (by omega)
  obtain ⟨s2, hs2⟩ : ∃ s, Rq.nx s1 4 = s := ⟨_, rfl⟩
  have o2 : Rq.St.ok s2 := hs2 ▸ Rq.nx_ok o1 4
  have hs0 : Rq.s0 b = ⟨Rq.only 5 id, s2⟩ := by
    unfold Rq.s0
    rw [hs1, hk, hid, hs2]
  obtain ⟨v3, hv3⟩ : ∃ v, Rq.vl s2 2 = v := ⟨_, rfl⟩
  obtain ⟨s3, hs3⟩ : ∃ s, Rq.nx s2 2 = s := ⟨_, rfl⟩
  have o3 : Rq.St.ok s3 := hs3 ▸ Rq.nx_ok o2 2
  have lv3 : v3 < 256 ^ 2 := hv3 ▸ Rq.vl_lt o2 2
  have cv3 : (v3 : Int) % 65536 = v3 := Int.emod_eq_of_lt (by omega) (by omega)
  obtain ⟨v6, hv6⟩ : ∃ v, Rq.vl s3 1 = v := ⟨_, rfl⟩
  obtain ⟨s4, hs4⟩ : ∃ s, Rq.nx s3 1 = s := ⟨_, rfl⟩
  have o4 : Rq.St.ok s4 := hs4 ▸ Rq.nx_ok o3 1
  have lv6 : v6 < 256 ^ 1 := hv6 ▸ Rq.vl_lt o3 1
  have cv6 : (v6 : Int) % 256 = v6 := Int.emod_eq_of_lt (by omega) (by omega)
  obtain ⟨v7, hv7⟩ : ∃ v, Rq.tt s4 = v := ⟨_, rfl⟩
  obtain ⟨s5, hs5⟩ : ∃ s, Rq.tx s4 = s := ⟨_, rfl⟩
  have o5 : Rq.St.ok s5 := hs5 ▸ Rq.tx_ok o4
  obtain ⟨v8, hv8⟩ : ∃ v, Rq.tt s5 = v := ⟨_, rfl⟩
  obtain ⟨s6, hs6⟩ : ∃ s, Rq.tx s5 = s := ⟨_, rfl⟩
  have o6 : Rq.St.ok s6 := hs6 ▸ Rq.tx_ok o5
  obtain ⟨v9, hv9⟩ : ∃ v, Rq.vl s6 8 = v := ⟨_, rfl⟩
  obtain ⟨s7, hs7⟩ : ∃ s, Rq.nx s6 8 = s := ⟨_, rfl⟩
  have o7 : Rq.St.ok s7 := hs7 ▸ Rq.nx_ok o6 8
  obtain ⟨y9, hy9⟩ : ∃ v, sg v9 = v := ⟨_, rfl⟩
  have cv9 : wrap64 (v9 : Int) = y9 := (sg_w9 v9).symm.trans hy9
  obtain ⟨v10, hv10⟩ : ∃ v, Rq.vl s7 8 = v := ⟨_, rfl⟩
  obtain ⟨s8, hs8⟩ : ∃ s, Rq.nx s7 8 = s := ⟨_, rfl⟩
  have o8 : Rq.St.ok s8 := hs8 ▸ Rq.nx_ok o7 8
  obtain ⟨y10, hy10⟩ : ∃ v, sg v10 = v := ⟨_, rfl⟩
  have cv10 : wrap64 (v10 : Int) = y10 := (sg_w9 v10).symm.trans hy10
  have hfin : Rq.fin b = ⟨⟨5, id, 0, v3, 0, 0, v6, v7, v8, y9, y10⟩, s8⟩ := by
    show (Rq.fparts (Rq.s0 b).x.k).foldl Rq.Sg.step (Rq.s0 b) = _
    rw [hs0]
    show (((((((⟨Rq.only 5 id, s2⟩ : Rq.Sg).step 3).step 6).step 7).step 8).step 9).step 10) = _
    rw [rq_step3 hv3 hs3, rq_step6 hv6 hs4, rq_step7 hv7 hs5, rq_step8 hv8 hs6, rq_step9 hv9 hs7 hy9, rq_step10 hv10 hs8 hy10]
    rfl
  have hokx : (Rq.fin b).x.ok := (Rq.fin_ok h256).1
  obtain ⟨dn, hdn⟩ : ∃ dn, doneOf s8.2 s8.1.length = dn := ⟨_, rfl⟩
  have herr : Rq.pse b = if dn = 0 then (if Rq.V.right ⟨5, id, 0, v3, 0, 0, v6, v7, v8, y9, y10⟩ then 0 else 81) else dn := by
    rw [hpse, hfin]
    unfold Rq.Sg.err Rq.Sg.done
    dsimp only
    rw [hdn]
  have PG : Hid (∀ w' v, Rq.V.val ⟨5, id, 0, v3, 0, 0, v6, v7, v8, y9, y10⟩ = v → Rq.pse b = 0 → Below w.heap.size w w' → PsP w b (.returned (.tuple #[v, .int .i64 0])) w') := Lib.hid fun w' v hv h hb => psp_good h (by rw [hfin]; exact hv) hb
  obtain ⟨rt, hrt⟩ : ∃ r, Rq.V.right ⟨5, id, 0, v3, 0, 0, v6, v7, v8, y9, y10⟩ = r := ⟨_, rfl⟩
  rw [hrt] at herr
  have CRt : Hid (∀ W, Calls Tryd.prog 15 #[.agg #[.int .u8 5, .int .u32 (id : Int), .int .u8 0, .int .u16 (v3 : Int), .int .u64 0, .int .u64 0, .int .u8 (v6 : Int), .string v7, .string v8, .int .i64 y9, .int .i64 y10]] W fun e w' => e = .returned (.bool rt) ∧ Below W.heap.size W w') := Lib.hid fun W => by
    rw [← hrt]
    exact refRight9_any ⟨5, id, 0, v3, 0, 0, v6, v7, v8, y9, y10⟩ W
  have HE := Lib.hid herr
  have HD := Lib.hid hdn
  have HL := Lib.hid hlen
  have HB1 := Lib.hid (And.intro B1 K1)
  have HS0 := Lib.hid (And.intro hk (And.intro hs1 (And.intro hid hs2)))
  have HV3 := Lib.hid (And.intro hv3 hs3)
  have HV6 := Lib.hid (And.intro hv6 hs4)
  have HV7 := Lib.hid (And.intro hv7 hs5)
  have HV8 := Lib.hid (And.intro hv8 hs6)
  have HV9 := Lib.hid (And.intro hv9 hs7)
  have HV10 := Lib.hid (And.intro hv10 hs8)
  clear hb hB htag hpse hok hlen h256 hfin hokx herr hrt hdn B1 K1 hk hs1 hid hs2 hs0 lid o1 o2 hv3 hs3 o3 lv3 hv6 hs4 o4 lv6 hv7 hs5 o5 hv8 hs6 o6 hv9 hs7 o7 hy9 hv10 hs8 o8 hy10
  go_enter Tryd.func20, Tryd.ntmps20
  go_wp2_with fail
  clear hW1 d0
  have S0 : Rr W1 (W1.alloc (.cells #[.slice (some ⟨bb, off, none⟩) n c, .int .i64 0, .bool false] 77)) (some ⟨bb, off, none⟩) n c b W1.heap.size (b, false) [] := ⟨0, false, Nat.zero_le _, rfl, Nat.le_refl _, (fun x hx => by cases hx), (Held.start W1).new _ _⟩
  refine (num9_1 HBY.out.1 HBY.out.2 hn S0).mono ?_
  rw [HS0.out.1, HS0.out.2.1]
  rintro e w1 ⟨rfl, h1⟩
  have H1 := Lib.hid h1
  clear h1 S0
  go_wp2_with fail
  refine (num9_4 HBY.out.1 HBY.out.2 hn H1.out).mono ?_
  rw [HS0.out.2.2.1, HS0.out.2.2.2]
  rintro e w2 ⟨rfl, h2⟩
  obtain ⟨R, hR⟩ : ∃ R, w2.heap.size = R := ⟨_, rfl⟩
  have S2 : Rr W1 (w2.alloc (.cells #[.int .u8 5, .int .u32 (id : Int), .int .u8 0, .int .u16 0, .int .u64 0, .int .u64 0, .int .u8 0, .string ⟨#[]⟩, .string ⟨#[]⟩, .int .i64 0, .int .i64 0] 33)) (some ⟨bb, off, none⟩) n c b W1.heap.size s2 [(w2.heap.size, 33, #[.int .u8 5, .int .u32 (id : Int), .int .u8 0, .int .u16 0, .int .u64 0, .int .u64 0, .int .u8 0, .string ⟨#[]⟩, .string ⟨#[]⟩, .int .i64 0, .int .i64 0])] := rr_new h2 _ _
  have hRg : W1.heap.size < w2.heap.size := rr_lt h2
  have H2 := Lib.hid S2
  clear H1 S2
  clear hR h2
  go_wp2_with fail
  refine (num9_2 HBY.out.1 HBY.out.2 hn H2.out).mono ?_
  rw [HV3.out.1, HV3.out.2]
  rintro e w3 ⟨rfl, h3⟩
  have r0 := h3.blk.cell 0
  have r3 := h3.blk.cell 3
  have q3 := h3.blk.frozen 3
  have S3 : Rr W1 (w3.setCell ⟨w2.heap.size, 3, none⟩ (.int .u16 (v3 : Int))) (some ⟨bb, off, none⟩) n c b W1.heap.size s3 [(w2.heap.size, 33, #[.int .u8 5, .int .u32 (id : Int), .int .u8 0, .int .u16 (v3 : Int), .int .u64 0, .int .u64 0, .int .u8 0, .string ⟨#[]⟩, .string ⟨#[]⟩, .int .i64 0, .int .i64 0])] := h3.put (Nat.le_of_lt hRg) 3 _
  have H3 := Lib.hid S3
  clear h3 S3 H2
  go_wp2_with fail
  clear r0 r3 q3
  refine (num9_1 HBY.out.1 HBY.out.2 hn H3.out).mono ?_
  rw [HV6.out.1, HV6.out.2]
  rintro e w4 ⟨rfl, h4⟩
  have r0 := h4.blk.cell 0
  have r6 := h4.blk.cell 6
  have q6 := h4.blk.frozen 6
  have S4 : Rr W1 (w4.setCell ⟨w2.heap.size, 6, none⟩ (.int .u8 (v6 : Int))) (some ⟨bb, off, none⟩) n c b W1.heap.size s4 [(w2.heap.size, 33, #[.int .u8 5, .int .u32 (id : Int), .int .u8 0, .int .u16 (v3 : Int), .int .u64 0, .int .u64 0, .int .u8 (v6 : Int), .string ⟨#[]⟩, .string ⟨#[]⟩, .int .i64 0, .int .i64 0])] := h4.put (Nat.le_of_lt hRg) 6 _
  have H4 := Lib.hid S4
  clear h4 S4 H3
  go_wp2_with fail
  clear r0 r6 q6
  refine (text9_any n c B _ _ b _ _ W1 _ HBY.out.1 HBY.out.2 hn hnc H4.out).mono ?_
  rw [HV7.out.1, HV7.out.2]
  rintro e w5 ⟨rfl, h5⟩
  have r0 := h5.blk.cell 0
  have r7 := h5.blk.cell 7
  have q7 := h5.blk.frozen 7
  have S5 : Rr W1 (w5.setCell ⟨w2.heap.size, 7, none⟩ (.string v7)) (some ⟨bb, off, none⟩) n c b W1.heap.size s5 [(w2.heap.size, 33, #[.int .u8 5, .int .u32 (id : Int), .int .u8 0, .int .u16 (v3 : Int), .int .u64 0, .int .u64 0, .int .u8 (v6 : Int), .string v7, .string ⟨#[]⟩, .int .i64 0, .int .i64 0])] := h5.put (Nat.le_of_lt hRg) 7 _
  have H5 := Lib.hid S5
  clear h5 S5 H4
  go_wp2_with fail
  clear r0 r7 q7
  refine (text9_any n c B _ _ b _ _ W1 _ HBY.out.1 HBY.out.2 hn hnc H5.out).mono ?_
  rw [HV8.out.1, HV8.out.2]
  rintro e w6 ⟨rfl, h6⟩
  have r0 := h6.blk.cell 0
  have r8 := h6.blk.cell 8
  have q8 := h6.blk.frozen 8
  have S6 : Rr W1 (w6.setCell ⟨w2.heap.size, 8, none⟩ (.string v8)) (some ⟨bb, off, none⟩) n c b W1.heap.size s6 [(w2.heap.size, 33, #[.int .u8 5, .int .u32 (id : Int), .int .u8 0, .int .u16 (v3 : Int), .int .u64 0, .int .u64 0, .int .u8 (v6 : Int), .string v7, .string v8, .int .i64 0, .int .i64 0])] := h6.put (Nat.le_of_lt hRg) 8 _
  have H6 := Lib.hid S6
  clear h6 S6 H5
  go_wp2_with fail
  clear r0 r8 q8
  refine (num9_8 HBY.out.1 HBY.out.2 hn H6.out).mono ?_
  rw [HV9.out.1, HV9.out.2]
  rintro e w7 ⟨rfl, h7⟩
  have r0 := h7.blk.cell 0
  have r9 := h7.blk.cell 9
  have q9 := h7.blk.frozen 9
  have S7 : Rr W1 (w7.setCell ⟨w2.heap.size, 9, none⟩ (.int .i64 y9)) (some ⟨bb, off, none⟩) n c b W1.heap.size s7 [(w2.heap.size, 33, #[.int .u8 5, .int .u32 (id : Int), .int .u8 0, .int .u16 (v3 : Int), .int .u64 0, .int .u64 0, .int .u8 (v6 : Int), .string v7, .string v8, .int .i64 y9, .int .i64 0])] := h7.put (Nat.le_of_lt hRg) 9 _
  have H7 := Lib.hid S7
  clear h7 S7 H6
  go_wp2_with fail
  clear r0 r9 q9
  refine (num9_8 HBY.out.1 HBY.out.2 hn H7.out).mono ?_
  rw [HV10.out.1, HV10.out.2]
  rintro e w8 ⟨rfl, h8⟩
  have r0 := h8.blk.cell 0
  have r10 := h8.blk.cell 10
  have q10 := h8.blk.frozen 10
  have S8 : Rr W1 (w8.setCell ⟨w2.heap.size, 10, none⟩ (.int .i64 y10)) (some ⟨bb, off, none⟩) n c b W1.heap.size s8 [(w2.heap.size, 33, #[.int .u8 5, .int .u32 (id : Int), .int .u8 0, .int .u16 (v3 : Int), .int .u64 0, .int .u64 0, .int .u8 (v6 : Int), .string v7, .string v8, .int .i64 y9, .int .i64 y10])] := h8.put (Nat.le_of_lt hRg) 10 _
  have G := Lib.hid S8
  obtain ⟨a, f, ha, hs, hgg, -, hH⟩ := h8
  have g0 := hH.top.cell 0
  have g1 := hH.top.cell 1
  have g2 := hH.top.cell 2
  have GA := Lib.hid (And.intro ha hs)
  clear ha hs hgg hH S8 H7
  go_wp2_with fail
  clear r0 r10 q10
  have hdd : doneOf f (n - a) = dn := by
    have h1 := HD.out
    rw [GA.out.2] at h1
    rw [← h1, List.length_drop, HL.out]
  clear g0 g1 g2
  refine (refDone9_any n c a _ f _ GA.out.1).mono ?_
  rw [hdd]
  rintro e wd ⟨rfl, bd⟩
  have hG := G.out.step bd
  have kR := hG.blk
  have kP := HB1.out.2.below hG.bel HB1.out.2.lt
  have HH := Lib.hid (And.intro kR (And.intro (below_next HB1.out.1 hG.bel) kP))
  have hzR : w.heap.size < w2.heap.size := Nat.lt_trans HB1.out.2.lt hRg
  have p0 := kP.cell 0
  have pf0 := kP.frozen 0
  have p1 := kP.cell 1
  have pf1 := kP.frozen 1
  have p2 := kP.cell 2
  have pf2 := kP.frozen 2
  have p3 := kP.cell 3
  have pf3 := kP.frozen 3
  have p4 := kP.cell 4
  have pf4 := kP.frozen 4
  have p5 := kP.cell 5
  have pf5 := kP.frozen 5
  have p6 := kP.cell 6
  have pf6 := kP.frozen 6
  have p7 := kP.cell 7
  have pf7 := kP.frozen 7
  have p8 := kP.cell 8
  have pf8 := kP.frozen 8
  have p9 := kP.cell 9
  have pf9 := kP.frozen 9
  have p10 := kP.cell 10
  have pf10 := kP.frozen 10
  have r0 := kR.cell 0
  have rf0 := kR.frozen 0
  have r1 := kR.cell 1
  have rf1 := kR.frozen 1
  have r2 := kR.cell 2
  have rf2 := kR.frozen 2
  have r3 := kR.cell 3
  have rf3 := kR.frozen 3
  have r4 := kR.cell 4
  have rf4 := kR.frozen 4
  have r5 := kR.cell 5
  have rf5 := kR.frozen 5
  have r6 := kR.cell 6
  have rf6 := kR.frozen 6
  have r7 := kR.cell 7
  have rf7 := kR.frozen 7
  have r8 := kR.cell 8
  have rf8 := kR.frozen 8
  have r9 := kR.cell 9
  have rf9 := kR.frozen 9
  have r10 := kR.cell 10
  have rf10 := kR.frozen 10
  clear hG kR kP bd hdd G
  by_cases hd0 : dn = 0
  rotate_left
  · have i7 : (dn == 0) = false := by rw [beq_eq_false_iff_ne]; exact hd0
    have i8 : (dn != 0) = true := by rw [bne_iff_ne]; exact hd0
    have HP := Lib.hid (show Rq.pse b = dn by rw [HE.out, if_neg hd0])
    have HD0 := Lib.hid hd0
    go_wp2_with fail
    refine bodyPost_ret (v := .tuple #[.agg #[.int .u8 0, .int .u32 0, .int .u8 0, .int .u16 0, .int .u64 0, .int .u64 0, .int .u8 0, .string ⟨#[]⟩, .string ⟨#[]⟩, .int .i64 0, .int .i64 0], .int .i64 dn]) ?_ rfl (psp_bad HP.out HD0.out (below_11 HH.out.2.1 (Nat.le_refl _) _ _ _ _ _ _ _ _ _ _ _))
    simp [results, Tryd.results20, go_sem, p0, p1, p2, p3, p4, p5, p6, p7, p8, p9, p10]
  subst hd0
  go_wp2_with fail
  refine (CRt.out _).mono ?_
  rintro e w8 ⟨rfl, b8⟩
  have kP := HH.out.2.2.below b8 HH.out.2.2.lt
  have kR := HH.out.1.below b8 HH.out.1.lt
  have H8 := Lib.hid (below_next HH.out.2.1 b8)
  clear p0 pf0 p1 pf1 p2 pf2 p3 pf3 p4 pf4 p5 pf5 p6 pf6 p7 pf7 p8 pf8 p9 pf9 p10 pf10 r0 rf0 r1 rf1 r2 rf2 r3 rf3 r4 rf4 r5 rf5 r6 rf6 r7 rf7 r8 rf8 r9 rf9 r10 rf10
  have p0 := kP.cell 0
  have pf0 := kP.frozen 0
  have p1 := kP.cell 1
  have pf1 := kP.frozen 1
  have p2 := kP.cell 2
  have pf2 := kP.frozen 2
  have p3 := kP.cell 3
  have pf3 := kP.frozen 3
  have p4 := kP.cell 4
  have pf4 := kP.frozen 4
  have p5 := kP.cell 5
  have pf5 := kP.frozen 5
  have p6 := kP.cell 6
  have pf6 := kP.frozen 6
  have p7 := kP.cell 7
  have pf7 := kP.frozen 7
  have p8 := kP.cell 8
  have pf8 := kP.frozen 8
  have p9 := kP.cell 9
  have pf9 := kP.frozen 9
  have p10 := kP.cell 10
  have pf10 := kP.frozen 10
  have r0 := kR.cell 0
  have rf0 := kR.frozen 0
  have r1 := kR.cell 1
  have rf1 := kR.frozen 1
  have r2 := kR.cell 2
  have rf2 := kR.frozen 2
  have r3 := kR.cell 3
  have rf3 := kR.frozen 3
  have r4 := kR.cell 4
  have rf4 := kR.frozen 4
  have r5 := kR.cell 5
  have rf5 := kR.frozen 5
  have r6 := kR.cell 6
  have rf6 := kR.frozen 6
  have r7 := kR.cell 7
  have rf7 := kR.frozen 7
  have r8 := kR.cell 8
  have rf8 := kR.frozen 8
  have r9 := kR.cell 9
  have rf9 := kR.frozen 9
  have r10 := kR.cell 10
  have rf10 := kR.frozen 10
  clear kP kR b8
  cases rt
  · have HP := Lib.hid (show Rq.pse b = 81 by rw [HE.out]; rfl)
    go_wp2_with fail
    refine bodyPost_ret (v := .tuple #[.agg #[.int .u8 0, .int .u32 0, .int .u8 0, .int .u16 0, .int .u64 0, .int .u64 0, .int .u8 0, .string ⟨#[]⟩, .string ⟨#[]⟩, .int .i64 0, .int .i64 0], .int .i64 81]) ?_ rfl (psp_bad HP.out (by decide) (below_11 H8.out (Nat.le_refl _) _ _ _ _ _ _ _ _ _ _ _))
    simp [results, Tryd.results20, go_sem, p0, p1, p2, p3, p4, p5, p6, p7, p8, p9, p10]
  · have HP := Lib.hid (show Rq.pse b = 0 by rw [HE.out]; rfl)
    go_wp2_with fail
    refine bodyPost_ret (v := .tuple #[.agg #[.int .u8 5, .int .u32 (id : Int), .int .u8 0, .int .u16 (v3 : Int), .int .u64 0, .int .u64 0, .int .u8 (v6 : Int), .string v7, .string v8, .int .i64 y9, .int .i64 y10], .int .i64 0]) ?_ rfl (PG.out _ _ rfl HP.out (below_11 H8.out (Nat.le_refl _) _ _ _ _ _ _ _ _ _ _ _))
    simp [results, Tryd.results20, go_sem, p0, p1, p2, p3, p4, p5, p6, p7, p8, p9, p10]
end Go.Proofs.YtgailpljcobabaaDoor
