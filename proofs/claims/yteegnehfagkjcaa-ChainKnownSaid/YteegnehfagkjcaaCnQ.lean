/- Made by tools/gen/cn.py. -/
/- Layer 15, the program: Versions. -/
import Derived.Test.YteegnehfagkjcaaCnN
namespace Go.Proofs.Yteegnehfagkjcaa
open Go.ChangeShapes Go.WideShapes Go.ChangeAt Go.RowKit
attribute [local go_sem] Oper.semAt_some

theorem Rg.Abides.blk {T g : Nat} {t : TypeId} {cs : Array Value} (hT : g < T ∨ T + 2 ≤ g) : Rg.Abides T fun V => Blk V g t cs where
  two V V' r h hg h1 h2 := (hg.block g h.lt (fun e => by injection e with e; omega)).trans h
  new V V' h hb := h.below hb h.lt
theorem Rg.Abides.pure (T : Nat) (p : Prop) : Rg.Abides T fun _ => p := ⟨fun _ _ _ h _ _ _ => h, fun _ _ h _ => h⟩
theorem Rg.Abides.and {T : Nat} {I I' : World → Prop} (h : Rg.Abides T I) (h' : Rg.Abides T I') : Rg.Abides T fun V => I V ∧ I' V := ⟨fun V V' r hi hg h1 h2 => ⟨h.two V V' r hi.1 hg h1 h2, h'.two V V' r hi.2 hg h1 h2⟩, fun V V' hi hb => ⟨h.new V V' hi.1 hb, h'.new V V' hi.2 hb⟩⟩
theorem Rg.Abides.below {T B : Nat} {w : World} (hB : B ≤ w.heap.size) (hT : B ≤ T) : Rg.Abides T fun V => Below B w V where
  two V V' r hi hg h1 _ := hi.grown hg (Nat.le_trans hB hi.size) (fun k e => by injection e with e; omega)
  new V V' hi hb := hi.trans (hb.mono (Nat.le_trans hB hi.size))
theorem Rg.Abides.ex {β : Type} {T : Nat} {I : β → World → Prop} (h : ∀ b, Rg.Abides T (I b)) : Rg.Abides T fun V => ∃ b, I b V := ⟨fun V V' r ⟨b, hi⟩ hg h1 h2 => ⟨b, (h b).two V V' r hi hg h1 h2⟩, fun V V' ⟨b, hi⟩ hb => ⟨b, (h b).new V V' hi hb⟩⟩
theorem Rg.Kept.of_below {T : Nat} {Kp : World → World → Prop} {V V' : World} (hb : Below V.heap.size V V') (hT : T + 2 ≤ V.heap.size) (hK : Kp V V') : Rg.Kept T Kp V V' := ⟨hb.size, fun r _ h2 => hb.block r (by omega), hK⟩
theorem Rg.Abides.own {T base e s n : Nat} {A : Option Addr} {c : Nat} {xs : List Value} (hT : ∀ b, (Value.slice A n c).ownBlock = some b → b < T ∨ T + 2 ≤ b) : Rg.Abides T fun V => V.ownsRow base e s (.slice A n c) n xs where
  two V V' r h hg h1 h2 := h.kept hg (by
    cases hv : (Value.slice A n c).ownBlock with
    | none => exact .inl rfl
    | some b => exact .inr (fun e => by injection e with e; have := hT b hv; omega))
  new V V' h hb := own_below h hb
theorem Src.abides {S : World → Prop} {K : Nat → Prop} {p : Option Addr} {l : List Cn.Ver} (h : Src S K p l) {T : Nat} (hK : ∀ r, K r → r < T) : Rg.Abides T S where
  two V V' r hs hg h1 h2 := h.blk V V' hs hg.size fun k hk hlt => hg.block k hlt (fun e => by injection e with e; have := hK k hk; omega)
  new V V' hs hb := h.below V V' hs hb
theorem KpC.put {K : Nat → Prop} {Bx T : Nat} (hB : Bx < T) (hK : ∀ r, K r → r < T) (V : World) (r : Nat) (o : Obj) (h1 : T ≤ r) (_ : r < T + 2) : KpC K Bx V (V.putObj r o) := fun g hg =>
  World.putObj_heap_other (by rcases hg with rfl | hg; omega; have := hK g hg; omega)
theorem wpListIn_append_eq {F : Fence} {n : Nat} {P : Program} {w w' : World} {ops : Array Oper} {rest : List Oper} {o : Oper} {a : Act} {Q : Exit → Act → World → Prop} (hg : o.guard = none) (s x : Operand) (t : TypeId)
    (hop : o.op = Op.call { callee := Callee.builtin Builtin.append, args := #[s, x], argTypes := #[t, t] }) {v xv v' : Value} (hs : a.eval s = v) (hx : a.eval x = xv) (hrun : (Builtin.append_ #[t, t] o.type #[v, xv]).run P w = .ok v' w')
    (hK : wpListIn F n P ops Q rest (a.put o.dst v') w') : wpListIn F n P ops Q (o :: rest) a w := by
  refine wpListIn_plain hg fun K hK' => ?_
  unfold Oper.wpIn
  refine ⟨?_, ?_⟩
  · simp [Oper.about, hop, resolve, Target.leads, Sem.run_pure]
  · rw [Oper.semAt_plain F _ _ (by rw [hop]; intro c hc'; cases hc')]
    simp [execOp, hop, resolve, invoke, builtin, hs, hx, hrun, Result.andThen]
    exact hK' _ _ hK
/-- What the rounds hold: the first k versions, in the call's own row. -/
def VersI (w : World) (lb : Nat) (l : List Cn.Ver) (S : World → Prop) (k : Nat) (V : World) : Prop :=
  ∃ x : Option Addr × Nat, (∀ b, (Value.slice x.1 k x.2).ownBlock = some b → b < lb ∨ lb + 4 ≤ b) ∧ Blk V lb 22 #[.slice x.1 k x.2] ∧ V.ownsRow w.heap.size 35 6 (.slice x.1 k x.2) k (vrL (l.take k)) ∧ S V ∧ Below w.heap.size w V
theorem VersI.abides {w : World} {lb : Nat} {l : List Cn.Ver} {S : World → Prop} {K : Nat → Prop} {p : Option Addr} (hS : Src S K p l) (hK : ∀ r, K r → r < w.heap.size) (hs : w.heap.size ≤ lb) (k : Nat) : Rg.Abides (lb + 2) (VersI w lb l S k) :=
  Rg.Abides.ex fun x => by
    refine ⟨fun V V' r h hg h1 h2 => ?_, fun V V' h hb => ?_⟩
    · obtain ⟨e1, e2, e3, e4, e5⟩ := h
      exact ⟨e1, (Rg.Abides.blk (T := lb + 2) (.inl (by omega))).two V V' r e2 hg h1 h2, (Rg.Abides.own (T := lb + 2) (fun b hb => by have := e1 b hb; omega)).two V V' r e3 hg h1 h2, (hS.abides (fun r hr => by have := hK r hr; omega)).two V V' r e4 hg h1 h2, (Rg.Abides.below (T := lb + 2) (Nat.le_refl _) (by omega)).two V V' r e5 hg h1 h2⟩
    · obtain ⟨e1, e2, e3, e4, e5⟩ := h
      exact ⟨e1, e2.below hb e2.lt, own_below e3 hb, hS.below _ _ e4 hb, below_next e5 hb⟩
def VersA (w : World) (s0 lb : Nat) (p : Option Addr) (l : List Cn.Ver) (S : World → Prop) (k : Nat) (a' : Act) (V : World) : Prop :=
  VersI w lb l S k V ∧ ∃ Fb : Nat, lb + 4 ≤ Fb ∧ Blk V Fb 86 #[.int .u64 ((Cn.ix l k).e : Int), .bool (Cn.ix l k).d, .int .i64 (Cn.ix l k).a.c, .int .i64 (Cn.ix l k).a.s, .int .i64 (Cn.ix l k).a.lo, .int .i64 (Cn.ix l k).a.hi, .bool (k == 0), .int .u64 (Cn.behind l k : Int)] ∧
    a' = { tmps := #[.pointer p, undef, .slice none 0 0, .pointer (some ⟨lb, 0, none⟩), .pointer (some ⟨Fb, 0, none⟩), .pointer p, .int .i64 (l.length : Int), .slice (some ⟨s0, 0, none⟩) 0 l.length, .pointer p, .func (.func 49) #[] #[.pointer (some ⟨lb + 1, 0, none⟩)], .agg #[.int .u64 ((Cn.ix l k).e : Int), .bool (Cn.ix l k).d, .int .i64 (Cn.ix l k).a.c, .int .i64 (Cn.ix l k).a.s, .int .i64 (Cn.ix l k).a.lo, .int .i64 (Cn.ix l k).a.hi, .bool (k == 0), .int .u64 (Cn.behind l k : Int)], undef, undef, undef, undef, undef, undef], defers := [] }
theorem VersA.abides {w : World} {s0 lb : Nat} {l : List Cn.Ver} {S : World → Prop} {K : Nat → Prop} {p : Option Addr} (hS : Src S K p l) (hK : ∀ r, K r → r < w.heap.size) (hs : w.heap.size ≤ lb) (k : Nat) (a' : Act) : Rg.Abides (lb + 2) (VersA w s0 lb p l S k a') where
  two V V' r h hg h1 h2 := by
    obtain ⟨e1, Fb, e2, e3, e4⟩ := h
    exact ⟨(VersI.abides hS hK hs k).two V V' r e1 hg h1 h2, Fb, e2, (Rg.Abides.blk (T := lb + 2) (.inr e2)).two V V' r e3 hg h1 h2, e4⟩
  new V V' h hb := by
    obtain ⟨e1, Fb, e2, e3, e4⟩ := h
    exact ⟨(VersI.abides hS hK hs k).new V V' e1 hb, Fb, e2, e3.below hb e3.lt, e4⟩
set_option maxRecDepth 100000 in
set_option maxHeartbeats 4000000 in
theorem versions_of (w : World) (p : Option Addr) (S : World → Prop) (K : Nat → Prop) (l : List Cn.Ver) (hS : Src S K p l) (h0 : S w) (hK : ∀ r, K r → r < w.heap.size) (hn : l.length ≤ 100000) : Calls Try.prog 24 #[.pointer p] w (VrP w 35 l) := by
  obtain ⟨i0, hi, hz0, hz1, hz2⟩ := info_parts Try.info35
  have HI := Lib.hid (And.intro hi (And.intro hz0 (And.intro hz1 hz2)))
  obtain ⟨n, hln⟩ : ∃ n, l.length = n := ⟨_, rfl⟩
  have HL := Lib.hid (hS.len w h0)
  rw [hln] at HL hn
  have H := Lib.hid (And.intro hS (And.intro h0 (And.intro hK hln)))
  have HB : Hid (∀ W, Calls Try.prog 41 #[.pointer p] W fun e w' => e = .returned (.func (.func 49) #[] #[.pointer (some ⟨W.heap.size, 0, none⟩)]) ∧ w' = W.alloc (.cells #[.pointer p] 28)) := Lib.hid fun W => links_any p W
  clear hS h0 hK hln hi hz0 hz1 hz2
  refine (callsIn_wide (n := 9)).1 ?_
  refine callsIn_of_wp_marks Try.func24 rfl trivial ?_ rfl
  simp only [Try.ntmps24, List.size_toArray, List.length_cons, List.length_nil, Nat.reduceAdd, Nat.reduceSub, Array.replicate_succ, Array.replicate_zero, List.push_toArray, List.append_toArray, List.nil_append, List.cons_append]
  refine wpIn_wide.2 ?_
  go_wp2_with fail
  refine HL.out.mono ?_
  rintro e w1 ⟨rfl, b1⟩
  obtain ⟨w2, hmk, hown, hgr⟩ := run_make_own (P := Try.prog) w1 w1.heap.size 22 35 i0 _ 6 Try.underlying22 HI.out.1 HI.out.2.1 HI.out.2.2.1 .i64 .i64 n (by rw [HI.out.2.2.2]; omega) (by unfold maxLen; omega) (Nat.le_refl _)
  have hs2 : w1.heap.size < w2.heap.size := (hown.lt w1.heap.size rfl).2
  have b2 := below_next b1 (below_none hgr)
  have B2 := Lib.hid (And.intro b2 (And.intro hown (And.intro hs2 b1.size)))
  clear b1 hgr hown b2 hs2
  go_wp2_with fail
  refine (HB.out _).mono ?_
  rintro e w3 ⟨rfl, rfl⟩
  go_wp2_with fail
  obtain ⟨lb, hlb⟩ : ∃ lb, w2.heap.size = lb := ⟨_, rfl⟩
  obtain ⟨s0, hs0⟩ : ∃ s0, w1.heap.size = s0 := ⟨_, rfl⟩
  have X1 := bel_al w2 (.cells #[.slice (some ⟨s0, 0, none⟩) 0 n] 22)
  have X2 := bel_al (w2.alloc (.cells #[.slice (some ⟨s0, 0, none⟩) 0 n] 22)) (.cells #[.pointer p] 28)
  have hz1 : (w2.alloc (.cells #[.slice (some ⟨s0, 0, none⟩) 0 n] 22)).heap.size = lb + 1 := by simp; omega
  have k1 := Blk.new w2 22 #[.slice (some ⟨s0, 0, none⟩) 0 n]
  have k2 := Blk.new (w2.alloc (.cells #[.slice (some ⟨s0, 0, none⟩) 0 n] 22)) 28 #[.pointer p]
  have k1 := k1.below X2 k1.lt
  have ho := own_below (own_below B2.out.2.1 X1) X2
  have hbw := below_next (below_next B2.out.1 X1) X2
  rw [hs0] at ho ⊢
  try rw [hz1]
  try rw [hlb]
  rw [hz1] at k2
  rw [hlb] at k1
  obtain ⟨W0, hW⟩ : ∃ W, (w2.alloc (.cells #[.slice (some ⟨s0, 0, none⟩) 0 n] 22)).alloc (.cells #[.pointer p] 28) = W := ⟨_, rfl⟩
  have hsz : W0.heap.size = lb + 2 := by rw [← hW]; simp; omega
  rw [hW] at k1 k2 ho hbw ⊢
  have hle : w.heap.size ≤ s0 ∧ s0 < lb := ⟨by have := B2.out.2.2; omega, by have := B2.out.2.2; omega⟩
  have hI0 : VersI w lb l S 0 W0 := ⟨(some ⟨s0, 0, none⟩, n), fun b hb => by
    have : s0 = b := by simpa [Value.ownBlock] using hb
    omega, k1, own_lower ho hle.1, H.out.1.below _ _ H.out.2.1 hbw, hbw⟩
  have HW := Lib.hid (And.intro hI0 (And.intro k2 (And.intro hsz (And.intro hle (H.out.1.below _ _ H.out.2.1 hbw)))))
  clear X1 X2 hz1 k1 k2 ho hbw hW hsz hle hI0 hlb hs0 hmk
  have hn2 := H.out.2.2.2
  subst hn2
  refine (wpIn_wide (n := 9)).1 ?_
  refine Rg.wp_range (gf := 49) (lb := #[.pointer (some ⟨lb + 1, 0, none⟩)]) rfl (enters_of Try.func49 (by kernel_rfl) rfl) (T := lb + 2) HW.out.2.2.1 (KpC.trans K (lb + 1)) (KpC.put (by omega) (fun r hr => by have := H.out.2.2.1 r hr; have := HW.out.2.2.2.1; omega))
    (by have := links_gives S K p l (lb + 1) 8 W0 H.out.1 HW.out.2.2.2.2 HW.out.2.1 (by omega); rw [HW.out.2.2.1] at this; exact this) (fun _ _ => rfl)
    (VersI w lb l S) (fun _ _ _ => False) (fun k => VersI.abides H.out.1 H.out.2.2.1 (by have := HW.out.2.2.2.1; omega) k) (fun _ _ => ⟨fun _ _ _ h _ _ _ => h, fun _ _ h _ => h⟩) HW.out.1
    (fun k _ => VersA w s0 lb p l S k) (fun k _ a' => VersA.abides H.out.1 H.out.2.2.1 (by have := HW.out.2.2.2.1; omega) k a') ?assign ?body ?done ?stop
  case assign =>
    rintro m q k ⟨⟩ V C hk hI - hz hC
    unfold encL
    have hal := bel_al V (.cells #[.int .u64 ((Cn.ix l k).e : Int), .bool (Cn.ix l k).d, .int .i64 (Cn.ix l k).a.c, .int .i64 (Cn.ix l k).a.s, .int .i64 (Cn.ix l k).a.lo, .int .i64 (Cn.ix l k).a.hi, .bool (k == 0), .int .u64 (Cn.behind l k : Int)] 86)
    have HAL := Lib.hid (And.intro hal (And.intro hI hC))
    clear hal hI hC
    gi_wp2
    refine HAL.out.2.2 _ _ (Rg.Kept.of_below HAL.out.1 hz (fun r hr => HAL.out.1.block r (by
      have := HW.out.2.2.2.1
      rcases hr with rfl | hr
      · omega
      · have := H.out.2.2.1 r hr
        omega))) ⟨(VersI.abides H.out.1 H.out.2.2.1 (by have := HW.out.2.2.2.1; omega) k).new _ _ HAL.out.2.1 HAL.out.1, V.heap.size, hz, Blk.new _ _ _, rfl⟩
  case body =>
    rintro m q k ⟨⟩ a' V hk ⟨⟨⟨A1, c1⟩, a1, a2, a3, a4, a5⟩, Fb, hFb, hb, rfl⟩ hz
    have z0 := a2.cell 0
    have y0 := hb.cell 0
    have y1 := hb.cell 1
    have y2 := hb.cell 2
    have y3 := hb.cell 3
    have y4 := hb.cell 4
    have y5 := hb.cell 5
    simp only [List.getElem?_toArray, List.getElem?_cons_zero, List.getElem?_cons_succ] at z0 y0 y1 y2 y3 y4 y5
    have hal := bel_al V (.cells (verC (Cn.ix l k)).toArray 35)
    have ha2 := a2.below hal a2.lt
    have hlw := HW.out.2.2.2.1
    obtain ⟨g2, c2, W2, hrun, hown2, hgrow, hwh, hlt2⟩ := run_append_lies (P := Try.prog) (V.alloc (.cells (verC (Cn.ix l k)).toArray 35)) 22 22 w.heap.size 35 i0 _ 6 48 Try.underlying22 HI.out.1 HI.out.2.1 HI.out.2.2.1 HI.out.2.2.2 rfl (by decide) (.slice A1 k c1) k _ (a3.alloc _) ⟨V.heap.size, 0, none⟩ 1 1 (verC (Cn.ix l k)) rfl (ver_new V 35 (Cn.ix l k) _ rfl) (by intro u hu; exact vrL_one [Cn.ix l k] u (by simpa [vrL] using hu)) (by decide) (by unfold maxLen; omega) (by omega) (by have := a5.size; simp; omega) _ rfl
    have hzz : (V.alloc (.cells (verC (Cn.ix l k)).toArray 35)).heap.size = V.heap.size + 1 := by simp
    have hfar : ∀ b, (Value.slice A1 k c1).ownBlock = some b → w.heap.size ≤ b := fun b hb => (a3.lt b hb).1
    have hkeep : ∀ r, r < V.heap.size → (∀ b, (Value.slice A1 k c1).ownBlock = some b → r ≠ b) → W2.heap[r]? = V.heap[r]? := fun r hr hne =>
      (hgrow.block r (by omega) (fun e => hne r e.symm rfl)).trans (hal.block r hr)
    have hlbn : ∀ b, (Value.slice A1 k c1).ownBlock = some b → lb ≠ b := fun b hb => by have := a1 b hb; omega
    have b2 : Blk W2 lb 22 #[.slice A1 k c1] := (hkeep lb a2.lt hlbn).trans a2
    have f0 := b2.frozen 0
    have x0 := b2.cell 0
    simp only [List.getElem?_toArray, List.getElem?_cons_zero] at x0
    have hrun' : (Builtin.append_ #[22, 22] 22 #[.slice A1 k c1, .slice (some ⟨V.heap.size, 0, none⟩) 1 1]).run Try.prog (V.alloc (.cells #[.int .u64 ((Cn.ix l k).e : Int), .bool (Cn.ix l k).d, .int .i64 (Cn.ix l k).a.c, .int .i64 (Cn.ix l k).a.s, .int .i64 (Cn.ix l k).a.lo, .int .i64 (Cn.ix l k).a.hi] 35)) = .ok (.slice (some ⟨g2, 0, none⟩) (k + 1) c2) W2 := hrun
    have hB3 := b2.set_ 0 (.slice (some ⟨g2, 0, none⟩) (k + 1) c2)
    have hT3 := (Turns.refl (fun b => b = lb) W2).setCell (g := lb) 0 (.slice (some ⟨g2, 0, none⟩) (k + 1) c2) (fun _ => rfl)
    have hsz2 : V.heap.size ≤ W2.heap.size := by have := hgrow.size; omega
    have hW2b : Below w.heap.size w W2 := grow_below a5 hgrow hfar
    have hgne : g2 ≠ lb := by
      rcases hwh with h | h
      · exact fun e => hlbn g2 h e.symm
      · have := a2.lt
        omega
    have hg2 : ∀ b, (Value.slice (some (⟨g2, 0, none⟩ : Addr)) (k + 1) c2).ownBlock = some b → b < lb ∨ lb + 4 ≤ b := fun b hb => by
      have hb : g2 = b := by simpa [Value.ownBlock] using hb
      subst hb
      rcases hwh with h | h
      · exact a1 g2 h
      · omega
    have hown3 : (W2.setCell ⟨lb, 0, none⟩ (.slice (some ⟨g2, 0, none⟩) (k + 1) c2)).ownsRow w.heap.size 35 6 (.slice (some ⟨g2, 0, none⟩) (k + 1) c2) (k + 1) (vrL (l.take (k + 1))) := by
      rw [vrL_snoc l k _ (Cn.ix_some hk)]
      exact own_turn hown2 hT3 (fun b hb e => by
        have hb : g2 = b := by simpa [Value.ownBlock] using hb
        omega)
    have hS3 : S (W2.setCell ⟨lb, 0, none⟩ (.slice (some ⟨g2, 0, none⟩) (k + 1) c2)) := H.out.1.blk V _ a4 (Nat.le_trans hsz2 hT3.size) fun r hr hlt => by
      have h5 := H.out.2.2.1 r hr
      refine (hT3.block r (by omega) (by omega)).trans (hkeep r hlt fun b hb e => ?_)
      have := hfar b hb
      omega
    have HFIN : Hid (VersI w lb l S (k + 1) (W2.setCell ⟨lb, 0, none⟩ (.slice (some ⟨g2, 0, none⟩) (k + 1) c2))) := Lib.hid ⟨(some ⟨g2, 0, none⟩, c2), hg2, hB3, hown3, hS3, hW2b.setCell (p := ⟨lb, 0, none⟩) (by show w.heap.size ≤ lb; omega) _⟩
    have HKEEP : Hid (Rg.Kept (lb + 2) (KpC K (lb + 1)) V (W2.setCell ⟨lb, 0, none⟩ (.slice (some ⟨g2, 0, none⟩) (k + 1) c2))) := Lib.hid ⟨Nat.le_trans hsz2 hT3.size, fun r h1 h2 => (hT3.block r (by omega) (by omega)).trans (hkeep r (by omega) fun b hb e => by have := a1 b hb; omega), fun r hr => by
      have h5 : r < V.heap.size ∧ r ≠ lb ∧ ∀ b, (Value.slice A1 k c1).ownBlock = some b → r ≠ b := by
        rcases hr with rfl | hr
        · exact ⟨by omega, by omega, fun b hb e => by have := a1 b hb; omega⟩
        · have h6 := H.out.2.2.1 r hr
          exact ⟨by omega, by omega, fun b hb e => by have := hfar b hb; omega⟩
      exact (hT3.block r (by omega) h5.2.1).trans (hkeep r h5.1 h5.2.2)⟩
    have HRUN := Lib.hid hrun'
    clear hrun hrun' hown2 hgrow hwh hlt2 hal ha2 hzz hfar hkeep hlbn b2 hB3 hT3 hsz2 hW2b hgne hg2 hown3 hS3 a1 a2 a3 a4 a5 hb
    gi_wp2_with (gi_at_builtin; refine wpListIn_append_eq rfl _ _ 22 rfl rfl rfl HRUN.out ?_)
    exact ⟨HKEEP.out, HFIN.out⟩
  case done =>
    rintro V ⟨⟨A1, c1⟩, a1, a2, a3, a4, a5⟩ hd
    have z0 := a2.cell 0
    simp only [List.getElem?_toArray, List.getElem?_cons_zero] at z0
    have hk := HW.out.2.2.2.1
    have hg := grownBy_putObj' V (lb + 2) (.deferred none)
    have ho := (Rg.Abides.own (T := lb + 2) (fun b hb => by have := a1 b hb; omega)).two V _ _ a3 hg (Nat.le_refl _) (by omega)
    have hbl := a5.grown hg a5.size (fun k e => by injection e with e; omega)
    rw [List.take_of_length_le (Nat.le_refl _)] at ho
    have HD := Lib.hid (And.intro hd (And.intro ho hbl))
    clear a1 a2 a3 a4 a5 hd hg ho hbl
    go_wp2_with fail
    refine ⟨by simp, .inl ⟨_, _, rfl, run_takeDeferred HD.out.1, ?_⟩⟩
    refine ⟨.slice A1 l.length c1, ?_, A1, c1, rfl, HD.out.2.1, HD.out.2.2⟩
    simp [results, Try.results24, go_sem]
  case stop =>
    rintro c k V hk h hd
    exact h.elim
theorem versions_any (w : World) (g n c sp : Nat) (A : Option Addr) (l : List Cn.Ver) (h : ChAt w g A n c sp l) (hn : n ≤ 100000) : Calls Try.prog 24 #[.pointer (some ⟨g, 0, none⟩)] w (VrP w 35 l) :=
  versions_of w _ _ _ l (src_chain g n c sp A l (by omega) h.len) h (fun r hr => by
    rcases hr with rfl | ⟨o, p, e⟩
    · exact h.blk.lt
    · rcases h.row with ⟨h1, -⟩ | ⟨b, o', cur, h1, -, hb, -⟩
      · rw [h1] at e
        cases e
      · rw [h1] at e
        injection e with e
        injection e with e1 e2 e3
        rw [← e1]
        exact hb.lt) (by rw [h.len]; exact hn)
theorem versions_nil (w : World) : Calls Try.prog 24 #[.pointer none] w (VrP w 35 []) :=
  versions_of w none _ _ [] src_nil trivial (fun _ h => h.elim) (by simp)
end Go.Proofs.Yteegnehfagkjcaa
