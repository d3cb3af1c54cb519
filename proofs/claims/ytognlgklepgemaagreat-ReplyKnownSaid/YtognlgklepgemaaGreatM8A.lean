/- Layer 8's reference: panes taken. (Made by tools/gen/reftl.py.) -/
import Derived.Test.YtognlgklepgemaaGreatM8T
import Derived.Test.YtognlgklepgemaaGreatRd6
import Derived.Test.YtognlgklepgemaaGreatHeld
import Derived.Deep.DeepCutAuto
import Derived.Test.YtognlgklepgemaaGreatRpRl
namespace Go.Proofs.YtognlgklepgemaaGreat
open Go.ChangeShapes Go.WideShapes Go.ChangeAt Go.RowKit

theorem Held.sub8 {w W : World} {l l' : List (Nat × TypeId × Array Value)} (h : Held w W l) (hs : ∀ x ∈ l', x ∈ l) : Held w W l' := ⟨h.1, fun x hx => h.2 x (hs x hx)⟩
theorem Held.put8 {w W : World} {l : List (Nat × TypeId × Array Value)} {g T : Nat} {cs : Array Value} (h : Held w W ((g, T, cs) :: l)) (hg : w.heap.size ≤ g) (hl : ∀ x ∈ l, x.1 ≠ g) (i : Nat) (u : Value) : Held w (W.setCell ⟨g, i, none⟩ u) ((g, T, cs.setIfInBounds i u) :: l) := by
  refine ⟨h.1.setCell (p := ⟨g, i, none⟩) hg u, fun x hx => ?_⟩
  rcases List.mem_cons.1 hx with rfl | hx
  · exact (h.2 _ (List.mem_cons_self ..)).set_ i u
  · exact (h.2 x (List.mem_cons_of_mem _ hx)).far (by have := hl x hx; omega) u
theorem Held.three8 {w W : World} {l : List (Nat × TypeId × Array Value)} {g T : Nat} {x y z : Value} (h : Held w W ((g, T, #[x, y, z]) :: l)) (hg : w.heap.size ≤ g) (hl : ∀ x ∈ l, x.1 ≠ g) (x' y' z' : Value) : Held w (((W.setCell ⟨g, 0, none⟩ x').setCell ⟨g, 1, none⟩ y').setCell ⟨g, 2, none⟩ z') ((g, T, #[x', y', z']) :: l) :=
  ((h.put8 hg hl 0 x').put8 hg hl 1 y').put8 hg hl 2 z'
theorem Rp.nx_goes (b : List Nat) (a : Nat) (f : Bool) (k : Nat) : Rp.nx (b.drop a, f) k = (b.drop (goes f (b.drop a) a k), Pk.fails f (b.drop a) k) := by
  unfold Rp.nx
  cases h : Pk.fails f (b.drop a) k
  · rw [goes_no h]
    refine Prod.ext ?_ rfl
    show Pk.left f (b.drop a) k = _
    unfold Pk.left
    rw [if_neg (by rw [h]; decide), List.drop_drop]
  · rw [goes_yes h]
    refine Prod.ext ?_ rfl
    show Pk.left f (b.drop a) k = _
    unfold Pk.left
    rw [if_pos h]
theorem Rp.tx_goes (b : List Nat) (a : Nat) (f : Bool) : Rp.tx (b.drop a, f) = (b.drop (tgoes f (b.drop a) a), Pk.tfails f (b.drop a)) := by
  unfold Rp.tx
  cases h : Pk.tfails f (b.drop a)
  · rw [tgoes_no h]
    refine Prod.ext ?_ rfl
    show Pk.tleft f (b.drop a) = _
    unfold Pk.tleft
    rw [if_neg (by rw [h]; decide), List.drop_drop]
  · rw [tgoes_yes h]
    refine Prod.ext ?_ rfl
    show Pk.tleft f (b.drop a) = _
    unfold Pk.tleft
    rw [if_pos h]
theorem Rp.goes_le {b : List Nat} {a n k : Nat} (f : Bool) (hl : b.length = n) (ha : a ≤ n) : goes f (b.drop a) a k ≤ n := by
  unfold goes
  split
  · exact ha
  · rename_i h
    have h : Pk.fails f (b.drop a) k = false := by simpa using h
    have := (Pk.fails_iff.1 h).2
    rw [List.length_drop] at this
    omega
theorem Rp.tgoes_le {b : List Nat} {a n : Nat} (f : Bool) (hl : b.length = n) (ha : a ≤ n) : tgoes f (b.drop a) a ≤ n := by
  unfold tgoes
  split
  · exact ha
  · rename_i h
    have h : Pk.tfails f (b.drop a) = false := by simpa using h
    obtain ⟨h1, h2⟩ := Pk.tfails_iff.1 h
    have h3 := (Pk.fails_iff.1 h1).2
    rw [List.length_drop] at h2 h3
    omega
theorem sg_w (v : Nat) : sg v = wrap64 (v : Int) := by
  unfold sg wrap64
  rw [IntKind.wrap_i64]
section
variable {n c a B : Nat} {A : Option Addr} {b : List Nat} {f : Bool} {w : World}
def RNx (w : World) (n c : Nat) (A : Option Addr) (b : List Nat) (v : Value) (s : Rp.St) (e : Ending) (w' : World) : Prop := ∃ a' g, a' ≤ n ∧ s = (b.drop a', g) ∧ e = .returned (.tuple #[v, .agg #[.slice A n c, .int .i64 (a' : Int), .bool g]]) ∧ Below w.heap.size w w'
theorem rt_take (k : Nat) (hb : Bytes w B A n b) (hB : B ≤ w.heap.size) (hn : n ≤ 1000000) (ha : a ≤ n) (hk : k ≤ 8) :
    Calls Tryz.prog 64 #[.agg #[.slice A n c, .int .i64 (a : Int), .bool f], .int .i64 (k : Int)] w (RNx w n c A b (.int .u64 ((Rp.vl (b.drop a, f) k : Nat) : Int)) (Rp.nx (b.drop a, f) k)) := by
  refine (refTake_any n c a k B A b f w hb hB hn ha hk).mono fun e w' hp => ?_
  unfold RTake at hp
  exact ⟨_, _, Rp.goes_le f hb.1 ha, Rp.nx_goes b a f k, hp⟩
theorem rt_take8 (hb : Bytes w B A n b) (hB : B ≤ w.heap.size) (hn : n ≤ 1000000) (ha : a ≤ n) :
    Calls Tryz.prog 64 #[.agg #[.slice A n c, .int .i64 (a : Int), .bool f], .int .i64 8] w (RNx w n c A b (.int .u64 ((Rp.vl (b.drop a, f) 8 : Nat) : Int)) (Rp.nx (b.drop a, f) 8)) := rt_take 8 hb hB hn ha (by omega)
theorem rt_text (hb : Bytes w B A n b) (hB : B ≤ w.heap.size) (hn : n ≤ 1000000) (ha : a ≤ n) (hc : n ≤ c) :
    Calls Tryz.prog 85 #[.agg #[.slice A n c, .int .i64 (a : Int), .bool f]] w (RNx w n c A b (.string (Rp.tt (b.drop a, f))) (Rp.tx (b.drop a, f))) := by
  refine (refTakeText_any n c a B A b f w hb hB hn ha hc).mono fun e w' hp => ?_
  unfold RText at hp
  exact ⟨_, _, Rp.tgoes_le f hb.1 ha, Rp.tx_goes b a f, hp⟩
end
set_option maxRecDepth 100000 in
set_option maxHeartbeats 2000000 in
theorem refTakePane_any (n c a B : Nat) (A : Option Addr) (b : List Nat) (f : Bool) (w : World) (hb : Bytes w B A n b) (hB : B ≤ w.heap.size) (hn : n ≤ 1000000) (ha : a ≤ n) (hc : n ≤ c) :
    Calls Tryz.prog 83 #[.agg #[.slice A n c, .int .i64 (a : Int), .bool f]] w (RNx w n c A b (.agg (panL (Rp.tPane (b.drop a, f)).1).toArray) (Rp.tPane (b.drop a, f)).2) := by
  have HBY : Hid (∀ W, Below w.heap.size w W → Bytes W B A n b) := Lib.hid fun W hW => hb.below hW hB
  have HBS : Hid (∀ W, Below w.heap.size w W → B ≤ W.heap.size) := Lib.hid fun W hW => Nat.le_trans hB hW.size
  obtain ⟨vk, e1⟩ : ∃ v, Rp.tt (b.drop a, f) = v := ⟨_, rfl⟩
  have HE1 := Lib.hid e1
  have S0 := Lib.hid ((((Held.start w).new #[.slice A n c, .int .i64 (a : Int), .bool f] 117).new #[.string ⟨#[]⟩, .int .i64 0, .int .i64 0] 90).new #[.slice none 0 0, .int .i64 0, .bool false] 117)
  simp only [World.size_alloc] at S0
  clear hb hB
  go_enter Tryz.func83, Tryz.ntmps83
  go_wp2_with fail
  obtain ⟨W0, hW0⟩ : ∃ W, ((w.alloc (.cells #[.slice A n c, .int .i64 (a : Int), .bool f] 117)).alloc (.cells #[.string ⟨#[]⟩, .int .i64 0, .int .i64 0] 90)).alloc (.cells #[.slice none 0 0, .int .i64 0, .bool false] 117) = W := ⟨_, rfl⟩
  rw [hW0] at S0 ⊢
  clear hW0
  have S0 := Lib.hid (S0.out.sub8 (l' := [(w.heap.size, 117, (#[.slice A n c, .int .i64 (a : Int), .bool f] : Array Value)), (w.heap.size + 1, 90, (#[.string ⟨#[]⟩, .int .i64 0, .int .i64 0] : Array Value)), (w.heap.size + 1 + 1, 117, (#[.slice none 0 0, .int .i64 0, .bool false] : Array Value))]) (by intro x hx; simp only [List.mem_cons, List.not_mem_nil, or_false] at hx ⊢; rcases hx with h | h | h <;> simp [h]))
  refine (rt_text (HBY.out W0 S0.out.1) (HBS.out W0 S0.out.1) hn ha hc).mono ?_
  rw [e1]
  clear e1
  rintro e w1 ⟨a1, g1, ha1, hs1, rfl, b1⟩
  have N1 := Lib.hid hs1
  have S1 := Lib.hid (S0.out.step b1)
  clear b1 hs1
  have kk := S1.out.at_ (List.mem_cons_self ..)
  have p0 := kk.cell 0
  have pf0 := kk.frozen 0
  have p1 := kk.cell 1
  have pf1 := kk.frozen 1
  have p2 := kk.cell 2
  have pf2 := kk.frozen 2
  clear kk
  go_wp2_with fail
  clear p0 pf0 p1 pf1 p2 pf2
  have s1 := S1.out.three8 (Nat.le_refl _) (by intro x hx; simp only [List.mem_cons, List.not_mem_nil, or_false] at hx; rcases hx with h | h <;> rw [h] <;> (dsimp only; omega)) (.slice A n c) (.int .i64 (a1 : Int)) (.bool g1)
  obtain ⟨W1, hW⟩ : ∃ W, ((w1.setCell ⟨w.heap.size, 0, none⟩ (.slice A n c)).setCell ⟨w.heap.size, 1, none⟩ (.int .i64 (a1 : Int))).setCell ⟨w.heap.size, 2, none⟩ (.bool g1) = W := ⟨_, rfl⟩
  rw [hW] at s1 ⊢
  have Sx1 := Lib.hid s1
  clear hW s1
  obtain ⟨v1, e1⟩ : ∃ v, Rp.vl (b.drop a1, g1) 8 = v := ⟨_, rfl⟩
  have HV1 := Lib.hid e1
  refine (rt_take8 (HBY.out W1 Sx1.out.1) (HBS.out W1 Sx1.out.1) hn ha1).mono ?_
  rw [e1]
  clear e1
  rintro e w2 ⟨a2, g2, ha2, hs2, rfl, b2⟩
  have N2 := Lib.hid hs2
  have S2 := Lib.hid (Sx1.out.step b2)
  clear b2 hs2
  have kk := S2.out.at_ (List.mem_cons_self ..)
  have p0 := kk.cell 0
  have pf0 := kk.frozen 0
  have p1 := kk.cell 1
  have pf1 := kk.frozen 1
  have p2 := kk.cell 2
  have pf2 := kk.frozen 2
  clear kk
  go_wp2_with fail
  clear p0 pf0 p1 pf1 p2 pf2
  have s2 := S2.out.three8 (Nat.le_refl _) (by intro x hx; simp only [List.mem_cons, List.not_mem_nil, or_false] at hx; rcases hx with h | h <;> rw [h] <;> (dsimp only; omega)) (.slice A n c) (.int .i64 (a2 : Int)) (.bool g2)
  obtain ⟨W2, hW⟩ : ∃ W, ((w2.setCell ⟨w.heap.size, 0, none⟩ (.slice A n c)).setCell ⟨w.heap.size, 1, none⟩ (.int .i64 (a2 : Int))).setCell ⟨w.heap.size, 2, none⟩ (.bool g2) = W := ⟨_, rfl⟩
  rw [hW] at s2 ⊢
  have Sx2 := Lib.hid s2
  clear hW s2
  obtain ⟨v2, e2⟩ : ∃ v, Rp.vl (b.drop a2, g2) 8 = v := ⟨_, rfl⟩
  have HV2 := Lib.hid e2
  refine (rt_take8 (HBY.out W2 Sx2.out.1) (HBS.out W2 Sx2.out.1) hn ha2).mono ?_
  rw [e2]
  clear e2
  rintro e w3 ⟨a3, g3, ha3, hs3, rfl, b3⟩
  have N3 := Lib.hid hs3
  have S3 := Lib.hid (Sx2.out.step b3)
  clear b3 hs3
  have kk := S3.out.at_ (List.mem_cons_self ..)
  have p0 := kk.cell 0
  have pf0 := kk.frozen 0
  have p1 := kk.cell 1
  have pf1 := kk.frozen 1
  have p2 := kk.cell 2
  have pf2 := kk.frozen 2
  clear kk
  go_wp2_with fail
  clear p0 pf0 p1 pf1 p2 pf2
  have s3 := S3.out.three8 (Nat.le_refl _) (by intro x hx; simp only [List.mem_cons, List.not_mem_nil, or_false] at hx; rcases hx with h | h <;> rw [h] <;> (dsimp only; omega)) (.slice A n c) (.int .i64 (a3 : Int)) (.bool g3)
  obtain ⟨W3, hW⟩ : ∃ W, ((w3.setCell ⟨w.heap.size, 0, none⟩ (.slice A n c)).setCell ⟨w.heap.size, 1, none⟩ (.int .i64 (a3 : Int))).setCell ⟨w.heap.size, 2, none⟩ (.bool g3) = W := ⟨_, rfl⟩
  rw [hW] at s3 ⊢
  have Sx3 := Lib.hid s3
  clear hW s3
  have kk := Sx3.out.at_ (List.mem_cons_self ..)
  have p0 := kk.cell 0
  have pf0 := kk.frozen 0
  have p1 := kk.cell 1
  have pf1 := kk.frozen 1
  have p2 := kk.cell 2
  have pf2 := kk.frozen 2
  clear kk
  have kk := Sx3.out.at_ (List.mem_cons_of_mem _ (List.mem_cons_self ..))
  have q0 := kk.cell 0
  have qf0 := kk.frozen 0
  have q1 := kk.cell 1
  have qf1 := kk.frozen 1
  have q2 := kk.cell 2
  have qf2 := kk.frozen 2
  clear kk
  have kk := Sx3.out.at_ (List.mem_cons_of_mem _ (List.mem_cons_of_mem _ (List.mem_cons_self ..)))
  have o0 := kk.cell 0
  have of0 := kk.frozen 0
  have o1 := kk.cell 1
  have of1 := kk.frozen 1
  have o2 := kk.cell 2
  have of2 := kk.frozen 2
  clear kk
  go_region
  go_wp2_with fail
  clear p0 pf0 p1 pf1 p2 pf2 q0 qf0 q1 qf1 q2 qf2 o0 of0 o1 of1 o2 of2
  have T0 := Sx3.out.sub8 (l' := [(w.heap.size + 1, 90, (#[.string ⟨#[]⟩, .int .i64 0, .int .i64 0] : Array Value)), (w.heap.size + 1 + 1, 117, (#[.slice none 0 0, .int .i64 0, .bool false] : Array Value)), (w.heap.size, 117, (#[.slice A n c, .int .i64 (a3 : Int), .bool g3] : Array Value))]) (by intro x hx; simp only [List.mem_cons, List.not_mem_nil, or_false] at hx ⊢; rcases hx with h | h | h <;> simp [h])
  have T1 := T0.three8 (by omega) (by intro x hx; simp only [List.mem_cons, List.not_mem_nil, or_false] at hx; rcases hx with h | h <;> rw [h] <;> (dsimp only; omega)) (.string vk) (.int .i64 (wrap64 (v1 : Int))) (.int .i64 (wrap64 (v2 : Int)))
  have T2 := T1.sub8 (l' := [(w.heap.size + 1 + 1, 117, (#[.slice none 0 0, .int .i64 0, .bool false] : Array Value)), (w.heap.size + 1, 90, (#[.string vk, .int .i64 (wrap64 (v1 : Int)), .int .i64 (wrap64 (v2 : Int))] : Array Value)), (w.heap.size, 117, (#[.slice A n c, .int .i64 (a3 : Int), .bool g3] : Array Value))]) (by intro x hx; simp only [List.mem_cons, List.not_mem_nil, or_false] at hx ⊢; rcases hx with h | h | h <;> simp [h])
  have T3 := T2.three8 (by omega) (by intro x hx; simp only [List.mem_cons, List.not_mem_nil, or_false] at hx; rcases hx with h | h <;> rw [h] <;> (dsimp only; omega)) (.slice A n c) (.int .i64 (a3 : Int)) (.bool g3)
  have F := Lib.hid (And.intro (T3.at_ (List.mem_cons_self ..)) (And.intro (T3.at_ (List.mem_cons_of_mem _ (List.mem_cons_self ..))) T3.1))
  clear T0 T1 T2 T3
  obtain ⟨W4, hW⟩ : ∃ W, (((((W3.setCell ⟨w.heap.size + 1, 0, none⟩ (.string vk)).setCell ⟨w.heap.size + 1, 1, none⟩ (.int .i64 (wrap64 (v1 : Int)))).setCell ⟨w.heap.size + 1, 2, none⟩ (.int .i64 (wrap64 (v2 : Int)))).setCell ⟨w.heap.size + 1 + 1, 0, none⟩ (.slice A n c)).setCell ⟨w.heap.size + 1 + 1, 1, none⟩ (.int .i64 (a3 : Int))).setCell ⟨w.heap.size + 1 + 1, 2, none⟩ (.bool g3) = W := ⟨_, rfl⟩
  have G : Blk W4 (w.heap.size + 1 + 1) 117 #[.slice A n c, .int .i64 (a3 : Int), .bool g3] ∧ Blk W4 (w.heap.size + 1) 90 #[.string vk, .int .i64 (wrap64 (v1 : Int)), .int .i64 (wrap64 (v2 : Int))] ∧ Below w.heap.size w W4 := by
    rw [← hW]
    exact F.out
  rw [hW]
  clear hW F
  have f0 := G.1.cell 0
  have f1 := G.1.cell 1
  have f2 := G.1.cell 2
  have h0 := G.2.1.cell 0
  have h1 := G.2.1.cell 1
  have h2 := G.2.1.cell 2
  refine bodyPost_ret (v := .tuple #[.agg #[.string vk, .int .i64 (wrap64 (v1 : Int)), .int .i64 (wrap64 (v2 : Int))], .agg #[.slice A n c, .int .i64 (a3 : Int), .bool g3]]) ?_ rfl ?_
  · simp [results, Tryz.results83, go_sem, f0, f1, f2, h0, h1, h2]
  · have e0 : Rp.tPane (b.drop a, f) = (⟨vk, wrap64 (v1 : Int), wrap64 (v2 : Int)⟩, (b.drop a3, g3)) := by
      unfold Rp.tPane
      rw [HE1.out, N1.out, HV1.out, N2.out, HV2.out, N3.out, sg_w, sg_w]
    rw [e0]
    exact ⟨a3, g3, ha3, rfl, rfl, G.2.2.drew⟩
end Go.Proofs.YtognlgklepgemaaGreat

namespace Go.Proofs.YtognlgklepgemaaGreat
open Go.ChangeShapes Go.WideShapes Go.ChangeAt Go.RowKit

theorem arr7 (x0 x1 x2 x3 x4 x5 x6 y0 y1 y2 y3 y4 y5 y6 : Value) : ((((((((#[x0, x1, x2, x3, x4, x5, x6] : Array Value).setIfInBounds 0 y0).setIfInBounds 1 y1).setIfInBounds 2 y2).setIfInBounds 3 y3).setIfInBounds 4 y4).setIfInBounds 5 y5).setIfInBounds 6 y6) = #[y0, y1, y2, y3, y4, y5, y6] := by
  simp
theorem Held.seven8 {w W : World} {l : List (Nat × TypeId × Array Value)} {g T : Nat} {x0 x1 x2 x3 x4 x5 x6 : Value} (h : Held w W ((g, T, #[x0, x1, x2, x3, x4, x5, x6]) :: l)) (hg : w.heap.size ≤ g) (hl : ∀ x ∈ l, x.1 ≠ g) (y0 y1 y2 y3 y4 y5 y6 : Value) : Held w (((((((W.setCell ⟨g, 0, none⟩ y0).setCell ⟨g, 1, none⟩ y1).setCell ⟨g, 2, none⟩ y2).setCell ⟨g, 3, none⟩ y3).setCell ⟨g, 4, none⟩ y4).setCell ⟨g, 5, none⟩ y5).setCell ⟨g, 6, none⟩ y6) ((g, T, #[y0, y1, y2, y3, y4, y5, y6]) :: l) := by
  have hh := ((((((h.put8 hg hl 0 y0).put8 hg hl 1 y1).put8 hg hl 2 y2).put8 hg hl 3 y3).put8 hg hl 4 y4).put8 hg hl 5 y5).put8 hg hl 6 y6
  rw [arr7] at hh
  exact hh
theorem rt_pane {n c a B : Nat} {A : Option Addr} {b : List Nat} {f : Bool} {w : World} {pk : ByteArray} {ps pe : Int} (hb : Bytes w B A n b) (hB : B ≤ w.heap.size) (hn : n ≤ 1000000) (ha : a ≤ n) (hc : n ≤ c) (hp : (Rp.tPane (b.drop a, f)).1 = ⟨pk, ps, pe⟩) :
    Calls Tryz.prog 83 #[.agg #[.slice A n c, .int .i64 (a : Int), .bool f]] w (RNx w n c A b (.agg #[.string pk, .int .i64 ps, .int .i64 pe]) (Rp.tPane (b.drop a, f)).2) := by
  have h := refTakePane_any n c a B A b f w hb hB hn ha hc
  rw [hp] at h
  exact h
set_option maxRecDepth 100000 in
set_option maxHeartbeats 2000000 in
theorem refTakeRow_any (n c a B : Nat) (A : Option Addr) (b : List Nat) (f : Bool) (w : World) (hb : Bytes w B A n b) (hB : B ≤ w.heap.size) (hn : n ≤ 1000000) (ha : a ≤ n) (hc : n ≤ c) :
    Calls Tryz.prog 82 #[.agg #[.slice A n c, .int .i64 (a : Int), .bool f]] w (RNx w n c A b (.agg (rowL (Rp.tRow (b.drop a, f)).1).toArray) (Rp.tRow (b.drop a, f)).2) := by
  have HBY : Hid (∀ W, Below w.heap.size w W → Bytes W B A n b) := Lib.hid fun W hW => hb.below hW hB
  have HBS : Hid (∀ W, Below w.heap.size w W → B ≤ W.heap.size) := Lib.hid fun W hW => Nat.le_trans hB hW.size
  obtain ⟨⟨pk, ps, pe⟩, e1⟩ : ∃ v, (Rp.tPane (b.drop a, f)).1 = v := ⟨_, rfl⟩
  have HE1 := Lib.hid e1
  have S0 := Lib.hid ((((Held.start w).new #[.slice A n c, .int .i64 (a : Int), .bool f] 117).new #[.string ⟨#[]⟩, .int .i64 0, .int .i64 0, .int .i64 0, .int .i64 0, .int .i64 0, .int .i64 0] 93).new #[.slice none 0 0, .int .i64 0, .bool false] 117)
  simp only [World.size_alloc] at S0
  clear hb hB e1
  go_enter Tryz.func82, Tryz.ntmps82
  go_wp2_with fail
  obtain ⟨W0, hW0⟩ : ∃ W, ((w.alloc (.cells #[.slice A n c, .int .i64 (a : Int), .bool f] 117)).alloc (.cells #[.string ⟨#[]⟩, .int .i64 0, .int .i64 0, .int .i64 0, .int .i64 0, .int .i64 0, .int .i64 0] 93)).alloc (.cells #[.slice none 0 0, .int .i64 0, .bool false] 117) = W := ⟨_, rfl⟩
  rw [hW0] at S0 ⊢
  clear hW0
  have S0 := Lib.hid (S0.out.sub8 (l' := [(w.heap.size, 117, (#[.slice A n c, .int .i64 (a : Int), .bool f] : Array Value)), (w.heap.size + 1, 93, (#[.string ⟨#[]⟩, .int .i64 0, .int .i64 0, .int .i64 0, .int .i64 0, .int .i64 0, .int .i64 0] : Array Value)), (w.heap.size + 1 + 1, 117, (#[.slice none 0 0, .int .i64 0, .bool false] : Array Value))]) (by intro x hx; simp only [List.mem_cons, List.not_mem_nil, or_false] at hx ⊢; rcases hx with h | h | h <;> simp [h]))
  refine (rt_pane (HBY.out W0 S0.out.1) (HBS.out W0 S0.out.1) hn ha hc HE1.out).mono ?_
  rintro e w1 ⟨a1, g1, ha1, hs1, rfl, b1⟩
  have N1 := Lib.hid hs1
  have hz1 : w.heap.size + 1 + 1 < w1.heap.size := (S0.out.step b1 |>.at_ (List.mem_cons_of_mem _ (List.mem_cons_of_mem _ (List.mem_cons_self ..)))).lt
  have hz2 : w.heap.size < w1.heap.size := by omega
  have SA := Lib.hid (S0.out.step b1)
  clear b1 hs1
  have kk := SA.out.at_ (List.mem_cons_self ..)
  have p0 := kk.cell 0
  have pf0 := kk.frozen 0
  have p1 := kk.cell 1
  have pf1 := kk.frozen 1
  have p2 := kk.cell 2
  have pf2 := kk.frozen 2
  clear kk
  go_wp2_with fail
  clear p0 pf0 p1 pf1 p2 pf2
  have s1 := (SA.out.three8 (Nat.le_refl _) (by intro x hx; simp only [List.mem_cons, List.not_mem_nil, or_false] at hx; rcases hx with h | h <;> rw [h] <;> (dsimp only; omega)) (.slice A n c) (.int .i64 (a1 : Int)) (.bool g1)).new #[.string pk, .int .i64 ps, .int .i64 pe] 90
  have hsz : (((w1.setCell ⟨w.heap.size, 0, none⟩ (.slice A n c)).setCell ⟨w.heap.size, 1, none⟩ (.int .i64 (a1 : Int))).setCell ⟨w.heap.size, 2, none⟩ (.bool g1)).heap.size = w1.heap.size := by simp
  rw [hsz] at s1
  have s1 := s1.sub8 (l' := [(w.heap.size, 117, (#[.slice A n c, .int .i64 (a1 : Int), .bool g1] : Array Value)), (w1.heap.size, 90, (#[.string pk, .int .i64 ps, .int .i64 pe] : Array Value)), (w.heap.size + 1, 93, (#[.string ⟨#[]⟩, .int .i64 0, .int .i64 0, .int .i64 0, .int .i64 0, .int .i64 0, .int .i64 0] : Array Value)), (w.heap.size + 1 + 1, 117, (#[.slice none 0 0, .int .i64 0, .bool false] : Array Value))]) (by intro x hx; simp only [List.mem_cons, List.not_mem_nil, or_false] at hx ⊢; rcases hx with h | h | h | h <;> simp [h])
  obtain ⟨W1, hW⟩ : ∃ W, (((w1.setCell ⟨w.heap.size, 0, none⟩ (.slice A n c)).setCell ⟨w.heap.size, 1, none⟩ (.int .i64 (a1 : Int))).setCell ⟨w.heap.size, 2, none⟩ (.bool g1)).alloc (.cells #[.string pk, .int .i64 ps, .int .i64 pe] 90) = W := ⟨_, rfl⟩
  rw [hW] at s1 ⊢
  have Sx1 := Lib.hid s1
  clear hW s1 hsz
  obtain ⟨v1, e1⟩ : ∃ v, Rp.vl (b.drop a1, g1) 8 = v := ⟨_, rfl⟩
  have HV1 := Lib.hid e1
  refine (rt_take8 (HBY.out W1 Sx1.out.1) (HBS.out W1 Sx1.out.1) hn ha1).mono ?_
  rw [e1]
  clear e1
  rintro e w2 ⟨a2, g2, ha2, hs2, rfl, b2⟩
  have N2 := Lib.hid hs2
  have S2 := Lib.hid (Sx1.out.step b2)
  clear b2 hs2
  have kk := S2.out.at_ (List.mem_cons_self ..)
  have p0 := kk.cell 0
  have pf0 := kk.frozen 0
  have p1 := kk.cell 1
  have pf1 := kk.frozen 1
  have p2 := kk.cell 2
  have pf2 := kk.frozen 2
  clear kk
  go_wp2_with fail
  clear p0 pf0 p1 pf1 p2 pf2
  have s2 := S2.out.three8 (Nat.le_refl _) (by intro x hx; simp only [List.mem_cons, List.not_mem_nil, or_false] at hx; rcases hx with h | h | h <;> rw [h] <;> (dsimp only; omega)) (.slice A n c) (.int .i64 (a2 : Int)) (.bool g2)
  obtain ⟨W2, hW⟩ : ∃ W, ((w2.setCell ⟨w.heap.size, 0, none⟩ (.slice A n c)).setCell ⟨w.heap.size, 1, none⟩ (.int .i64 (a2 : Int))).setCell ⟨w.heap.size, 2, none⟩ (.bool g2) = W := ⟨_, rfl⟩
  rw [hW] at s2 ⊢
  have Sx2 := Lib.hid s2
  clear hW s2
  obtain ⟨v2, e2⟩ : ∃ v, Rp.vl (b.drop a2, g2) 8 = v := ⟨_, rfl⟩
  have HV2 := Lib.hid e2
  refine (rt_take8 (HBY.out W2 Sx2.out.1) (HBS.out W2 Sx2.out.1) hn ha2).mono ?_
  rw [e2]
  clear e2
  rintro e w3 ⟨a3, g3, ha3, hs3, rfl, b3⟩
  have N3 := Lib.hid hs3
  have S3 := Lib.hid (Sx2.out.step b3)
  clear b3 hs3
  have kk := S3.out.at_ (List.mem_cons_self ..)
  have p0 := kk.cell 0
  have pf0 := kk.frozen 0
  have p1 := kk.cell 1
  have pf1 := kk.frozen 1
  have p2 := kk.cell 2
  have pf2 := kk.frozen 2
  clear kk
  go_wp2_with fail
  clear p0 pf0 p1 pf1 p2 pf2
  have s3 := S3.out.three8 (Nat.le_refl _) (by intro x hx; simp only [List.mem_cons, List.not_mem_nil, or_false] at hx; rcases hx with h | h | h <;> rw [h] <;> (dsimp only; omega)) (.slice A n c) (.int .i64 (a3 : Int)) (.bool g3)
  obtain ⟨W3, hW⟩ : ∃ W, ((w3.setCell ⟨w.heap.size, 0, none⟩ (.slice A n c)).setCell ⟨w.heap.size, 1, none⟩ (.int .i64 (a3 : Int))).setCell ⟨w.heap.size, 2, none⟩ (.bool g3) = W := ⟨_, rfl⟩
  rw [hW] at s3 ⊢
  have Sx3 := Lib.hid s3
  clear hW s3
  obtain ⟨v3, e3⟩ : ∃ v, Rp.vl (b.drop a3, g3) 8 = v := ⟨_, rfl⟩
  have HV3 := Lib.hid e3
  refine (rt_take8 (HBY.out W3 Sx3.out.1) (HBS.out W3 Sx3.out.1) hn ha3).mono ?_
  rw [e3]
  clear e3
  rintro e w4 ⟨a4, g4, ha4, hs4, rfl, b4⟩
  have N4 := Lib.hid hs4
  have S4 := Lib.hid (Sx3.out.step b4)
  clear b4 hs4
  have kk := S4.out.at_ (List.mem_cons_self ..)
  have p0 := kk.cell 0
  have pf0 := kk.frozen 0
  have p1 := kk.cell 1
  have pf1 := kk.frozen 1
  have p2 := kk.cell 2
  have pf2 := kk.frozen 2
  clear kk
  go_wp2_with fail
  clear p0 pf0 p1 pf1 p2 pf2
  have s4 := S4.out.three8 (Nat.le_refl _) (by intro x hx; simp only [List.mem_cons, List.not_mem_nil, or_false] at hx; rcases hx with h | h | h <;> rw [h] <;> (dsimp only; omega)) (.slice A n c) (.int .i64 (a4 : Int)) (.bool g4)
  obtain ⟨W4, hW⟩ : ∃ W, ((w4.setCell ⟨w.heap.size, 0, none⟩ (.slice A n c)).setCell ⟨w.heap.size, 1, none⟩ (.int .i64 (a4 : Int))).setCell ⟨w.heap.size, 2, none⟩ (.bool g4) = W := ⟨_, rfl⟩
  rw [hW] at s4 ⊢
  have Sx4 := Lib.hid s4
  clear hW s4
  obtain ⟨v4, e4⟩ : ∃ v, Rp.vl (b.drop a4, g4) 8 = v := ⟨_, rfl⟩
  have HV4 := Lib.hid e4
  refine (rt_take8 (HBY.out W4 Sx4.out.1) (HBS.out W4 Sx4.out.1) hn ha4).mono ?_
  rw [e4]
  clear e4
  rintro e w5 ⟨a5, g5, ha5, hs5, rfl, b5⟩
  have N5 := Lib.hid hs5
  have S5 := Lib.hid (Sx4.out.step b5)
  clear b5 hs5
  have kk := S5.out.at_ (List.mem_cons_self ..)
  have p0 := kk.cell 0
  have pf0 := kk.frozen 0
  have p1 := kk.cell 1
  have pf1 := kk.frozen 1
  have p2 := kk.cell 2
  have pf2 := kk.frozen 2
  clear kk
  go_wp2_with fail
  clear p0 pf0 p1 pf1 p2 pf2
  have s5 := S5.out.three8 (Nat.le_refl _) (by intro x hx; simp only [List.mem_cons, List.not_mem_nil, or_false] at hx; rcases hx with h | h | h <;> rw [h] <;> (dsimp only; omega)) (.slice A n c) (.int .i64 (a5 : Int)) (.bool g5)
  obtain ⟨W5, hW⟩ : ∃ W, ((w5.setCell ⟨w.heap.size, 0, none⟩ (.slice A n c)).setCell ⟨w.heap.size, 1, none⟩ (.int .i64 (a5 : Int))).setCell ⟨w.heap.size, 2, none⟩ (.bool g5) = W := ⟨_, rfl⟩
  rw [hW] at s5 ⊢
  have Sx5 := Lib.hid s5
  clear hW s5
  have kk := Sx5.out.at_ (List.mem_cons_self ..)
  have p0 := kk.cell 0
  have pf0 := kk.frozen 0
  have p1 := kk.cell 1
  have pf1 := kk.frozen 1
  have p2 := kk.cell 2
  have pf2 := kk.frozen 2
  clear kk
  have kk := Sx5.out.at_ (List.mem_cons_of_mem _ (List.mem_cons_self ..))
  have t0 := kk.cell 0
  have tf0 := kk.frozen 0
  have t1 := kk.cell 1
  have tf1 := kk.frozen 1
  have t2 := kk.cell 2
  have tf2 := kk.frozen 2
  clear kk
  have kk := Sx5.out.at_ (List.mem_cons_of_mem _ (List.mem_cons_of_mem _ (List.mem_cons_self ..)))
  have q0 := kk.cell 0
  have qf0 := kk.frozen 0
  have q1 := kk.cell 1
  have qf1 := kk.frozen 1
  have q2 := kk.cell 2
  have qf2 := kk.frozen 2
  have q3 := kk.cell 3
  have qf3 := kk.frozen 3
  have q4 := kk.cell 4
  have qf4 := kk.frozen 4
  have q5 := kk.cell 5
  have qf5 := kk.frozen 5
  have q6 := kk.cell 6
  have qf6 := kk.frozen 6
  clear kk
  have kk := Sx5.out.at_ (List.mem_cons_of_mem _ (List.mem_cons_of_mem _ (List.mem_cons_of_mem _ (List.mem_cons_self ..))))
  have o0 := kk.cell 0
  have of0 := kk.frozen 0
  have o1 := kk.cell 1
  have of1 := kk.frozen 1
  have o2 := kk.cell 2
  have of2 := kk.frozen 2
  clear kk
  go_region
  go_wp2_with fail
  clear p0 pf0 p1 pf1 p2 pf2 t0 tf0 t1 tf1 t2 tf2 q0 qf0 q1 qf1 q2 qf2 q3 qf3 q4 qf4 q5 qf5 q6 qf6 o0 of0 o1 of1 o2 of2
  have T0 := Sx5.out.sub8 (l' := [(w.heap.size + 1, 93, (#[.string ⟨#[]⟩, .int .i64 0, .int .i64 0, .int .i64 0, .int .i64 0, .int .i64 0, .int .i64 0] : Array Value)), (w.heap.size + 1 + 1, 117, (#[.slice none 0 0, .int .i64 0, .bool false] : Array Value)), (w.heap.size, 117, (#[.slice A n c, .int .i64 (a5 : Int), .bool g5] : Array Value)), (w1.heap.size, 90, (#[.string pk, .int .i64 ps, .int .i64 pe] : Array Value))]) (by intro x hx; simp only [List.mem_cons, List.not_mem_nil, or_false] at hx ⊢; rcases hx with h | h | h | h <;> simp [h])
  have T1 := T0.seven8 (by omega) (by intro x hx; simp only [List.mem_cons, List.not_mem_nil, or_false] at hx; rcases hx with h | h | h <;> rw [h] <;> (dsimp only; omega)) (.string pk) (.int .i64 ps) (.int .i64 pe) (.int .i64 (wrap64 (v1 : Int))) (.int .i64 (wrap64 (v2 : Int))) (.int .i64 (wrap64 (v3 : Int))) (.int .i64 (wrap64 (v4 : Int)))
  have T2 := T1.sub8 (l' := [(w.heap.size + 1 + 1, 117, (#[.slice none 0 0, .int .i64 0, .bool false] : Array Value)), (w.heap.size + 1, 93, (#[.string pk, .int .i64 ps, .int .i64 pe, .int .i64 (wrap64 (v1 : Int)), .int .i64 (wrap64 (v2 : Int)), .int .i64 (wrap64 (v3 : Int)), .int .i64 (wrap64 (v4 : Int))] : Array Value)), (w.heap.size, 117, (#[.slice A n c, .int .i64 (a5 : Int), .bool g5] : Array Value)), (w1.heap.size, 90, (#[.string pk, .int .i64 ps, .int .i64 pe] : Array Value))]) (by intro x hx; simp only [List.mem_cons, List.not_mem_nil, or_false] at hx ⊢; rcases hx with h | h | h | h <;> simp [h])
  have T3 := T2.three8 (by omega) (by intro x hx; simp only [List.mem_cons, List.not_mem_nil, or_false] at hx; rcases hx with h | h | h <;> rw [h] <;> (dsimp only; omega)) (.slice A n c) (.int .i64 (a5 : Int)) (.bool g5)
  have F := Lib.hid (And.intro (T3.at_ (List.mem_cons_self ..)) (And.intro (T3.at_ (List.mem_cons_of_mem _ (List.mem_cons_self ..))) T3.1))
  clear T0 T1 T2 T3
  obtain ⟨W6, hW⟩ : ∃ W, ((((((((((W5.setCell ⟨w.heap.size + 1, 0, none⟩ (.string pk)).setCell ⟨w.heap.size + 1, 1, none⟩ (.int .i64 ps)).setCell ⟨w.heap.size + 1, 2, none⟩ (.int .i64 pe)).setCell ⟨w.heap.size + 1, 3, none⟩ (.int .i64 (wrap64 (v1 : Int)))).setCell ⟨w.heap.size + 1, 4, none⟩ (.int .i64 (wrap64 (v2 : Int)))).setCell ⟨w.heap.size + 1, 5, none⟩ (.int .i64 (wrap64 (v3 : Int)))).setCell ⟨w.heap.size + 1, 6, none⟩ (.int .i64 (wrap64 (v4 : Int)))).setCell ⟨w.heap.size + 1 + 1, 0, none⟩ (.slice A n c)).setCell ⟨w.heap.size + 1 + 1, 1, none⟩ (.int .i64 (a5 : Int))).setCell ⟨w.heap.size + 1 + 1, 2, none⟩ (.bool g5)) = W := ⟨_, rfl⟩
  have G : Blk W6 (w.heap.size + 1 + 1) 117 #[.slice A n c, .int .i64 (a5 : Int), .bool g5] ∧ Blk W6 (w.heap.size + 1) 93 #[.string pk, .int .i64 ps, .int .i64 pe, .int .i64 (wrap64 (v1 : Int)), .int .i64 (wrap64 (v2 : Int)), .int .i64 (wrap64 (v3 : Int)), .int .i64 (wrap64 (v4 : Int))] ∧ Below w.heap.size w W6 := by
    rw [← hW]
    exact F.out
  rw [hW]
  clear hW F
  have f0 := G.1.cell 0
  have f1 := G.1.cell 1
  have f2 := G.1.cell 2
  have h0 := G.2.1.cell 0
  have h1 := G.2.1.cell 1
  have h2 := G.2.1.cell 2
  have h3 := G.2.1.cell 3
  have h4 := G.2.1.cell 4
  have h5 := G.2.1.cell 5
  have h6 := G.2.1.cell 6
  refine bodyPost_ret (v := .tuple #[.agg #[.string pk, .int .i64 ps, .int .i64 pe, .int .i64 (wrap64 (v1 : Int)), .int .i64 (wrap64 (v2 : Int)), .int .i64 (wrap64 (v3 : Int)), .int .i64 (wrap64 (v4 : Int))], .agg #[.slice A n c, .int .i64 (a5 : Int), .bool g5]]) ?_ rfl ?_
  · simp [results, Tryz.results82, go_sem, f0, f1, f2, h0, h1, h2, h3, h4, h5, h6]
  · have e0 : Rp.tRow (b.drop a, f) = (⟨⟨pk, ps, pe⟩, ⟨wrap64 (v1 : Int), wrap64 (v2 : Int), wrap64 (v3 : Int), wrap64 (v4 : Int)⟩⟩, (b.drop a5, g5)) := by
      unfold Rp.tRow Rp.tAgg
      rw [HE1.out, N1.out, HV1.out, N2.out, HV2.out, N3.out, HV3.out, N4.out, HV4.out, N5.out, sg_w, sg_w, sg_w, sg_w]
    rw [e0]
    exact ⟨a5, g5, ha5, rfl, rfl, G.2.2.drew⟩
end Go.Proofs.YtognlgklepgemaaGreat

namespace Go.Proofs.YtognlgklepgemaaGreat
open Go.ChangeShapes Go.WideShapes Go.ChangeAt Go.RowKit

theorem Held.twelve8 {w W : World} {l : List (Nat × TypeId × Array Value)} {g T : Nat} {x0 x1 x2 x3 x4 x5 x6 x7 x8 x9 x10 x11 : Value} (h : Held w W ((g, T, #[x0, x1, x2, x3, x4, x5, x6, x7, x8, x9, x10, x11]) :: l)) (hg : w.heap.size ≤ g) (hl : ∀ x ∈ l, x.1 ≠ g) (y0 y1 y2 y3 y4 y5 y6 y7 y8 y9 y10 y11 : Value) : Held w ((((((((((((W.setCell ⟨g, 0, none⟩ y0).setCell ⟨g, 1, none⟩ y1).setCell ⟨g, 2, none⟩ y2).setCell ⟨g, 3, none⟩ y3).setCell ⟨g, 4, none⟩ y4).setCell ⟨g, 5, none⟩ y5).setCell ⟨g, 6, none⟩ y6).setCell ⟨g, 7, none⟩ y7).setCell ⟨g, 8, none⟩ y8).setCell ⟨g, 9, none⟩ y9).setCell ⟨g, 10, none⟩ y10).setCell ⟨g, 11, none⟩ y11) ((g, T, #[y0, y1, y2, y3, y4, y5, y6, y7, y8, y9, y10, y11]) :: l) := by
  have hh := (((((((((((h.put8 hg hl 0 y0).put8 hg hl 1 y1).put8 hg hl 2 y2).put8 hg hl 3 y3).put8 hg hl 4 y4).put8 hg hl 5 y5).put8 hg hl 6 y6).put8 hg hl 7 y7).put8 hg hl 8 y8).put8 hg hl 9 y9).put8 hg hl 10 y10).put8 hg hl 11 y11
  rw [arr12] at hh
  exact hh
set_option maxRecDepth 100000 in
set_option maxHeartbeats 2000000 in
theorem refTakeCode_any (x : Rp.V) (n c a B v : Nat) (A : Option Addr) (b : List Nat) (f : Bool) (w : World) (hb : Bytes w B A n b) (hB : B ≤ w.heap.size) (hn : n ≤ 1000000) (ha : a ≤ n) (hv : Rp.vl (b.drop a, f) 2 = v) (hlt : v < 65536) :
    Calls Tryz.prog 65 #[x.val, .int .u8 99, .agg #[.slice A n c, .int .i64 (a : Int), .bool f]] w fun e w' => ∃ a' g, a' ≤ n ∧ Rp.nx (b.drop a, f) 2 = (b.drop a', g) ∧ e = .returned (.tuple #[({ x with code := v } : Rp.V).val, .agg #[.slice A n c, .int .i64 (a' : Int), .bool g], .bool false]) ∧ Below w.heap.size w w' := by
  obtain ⟨k, id, code, last, ep, fl, un, le, st, ti, Q, n1, c1, G, m, d⟩ := x
  have HBY : Hid (∀ W, Below w.heap.size w W → Bytes W B A n b) := Lib.hid fun W hW => hb.below hW hB
  have HBS : Hid (∀ W, Below w.heap.size w W → B ≤ W.heap.size) := Lib.hid fun W hW => Nat.le_trans hB hW.size
  have S0 := Lib.hid (((((Held.start w).new #[.int .u8 (k : Int), .int .u32 (id : Int), .int .u16 (code : Int), .bool last, .int .u64 (ep : Int), .int .u64 (fl : Int), .int .u64 (un : Int), .int .u64 (le : Int), .int .u64 (st : Int), .int .u64 (ti : Int), .slice Q n1 c1, .slice G m d] 40).new #[.slice A n c, .int .i64 (a : Int), .bool f] 117).new #[.int .u8 0, .int .u32 0, .int .u16 0, .bool false, .int .u64 0, .int .u64 0, .int .u64 0, .int .u64 0, .int .u64 0, .int .u64 0, .slice none 0 0, .slice none 0 0] 40).new #[.slice none 0 0, .int .i64 0, .bool false] 117)
  simp only [World.size_alloc] at S0
  have HV := Lib.hid hv
  clear hb hB hv
  unfold Rp.V.val Rp.V.cells
  dsimp only
  go_enter Tryz.func65, Tryz.ntmps65
  go_wp2_with fail
  obtain ⟨W0, hW0⟩ : ∃ W, (((w.alloc (.cells #[.int .u8 (k : Int), .int .u32 (id : Int), .int .u16 (code : Int), .bool last, .int .u64 (ep : Int), .int .u64 (fl : Int), .int .u64 (un : Int), .int .u64 (le : Int), .int .u64 (st : Int), .int .u64 (ti : Int), .slice Q n1 c1, .slice G m d] 40)).alloc (.cells #[.slice A n c, .int .i64 (a : Int), .bool f] 117)).alloc (.cells #[.int .u8 0, .int .u32 0, .int .u16 0, .bool false, .int .u64 0, .int .u64 0, .int .u64 0, .int .u64 0, .int .u64 0, .int .u64 0, .slice none 0 0, .slice none 0 0] 40)).alloc (.cells #[.slice none 0 0, .int .i64 0, .bool false] 117) = W := ⟨_, rfl⟩
  rw [hW0] at S0 ⊢
  clear hW0
  have S0 := Lib.hid (S0.out.sub8 (l' := [(w.heap.size + 1, 117, (#[.slice A n c, .int .i64 (a : Int), .bool f] : Array Value)), (w.heap.size, 40, (#[.int .u8 (k : Int), .int .u32 (id : Int), .int .u16 (code : Int), .bool last, .int .u64 (ep : Int), .int .u64 (fl : Int), .int .u64 (un : Int), .int .u64 (le : Int), .int .u64 (st : Int), .int .u64 (ti : Int), .slice Q n1 c1, .slice G m d] : Array Value)), (w.heap.size + 1 + 1, 40, (#[.int .u8 0, .int .u32 0, .int .u16 0, .bool false, .int .u64 0, .int .u64 0, .int .u64 0, .int .u64 0, .int .u64 0, .int .u64 0, .slice none 0 0, .slice none 0 0] : Array Value)), (w.heap.size + 1 + 1 + 1, 117, (#[.slice none 0 0, .int .i64 0, .bool false] : Array Value))]) (by intro x hx; simp only [List.mem_cons, List.not_mem_nil, or_false] at hx ⊢; rcases hx with h | h | h | h <;> simp [h]))
  refine (rt_take (c := c) 2 (HBY.out W0 S0.out.1) (HBS.out W0 S0.out.1) hn ha (by omega)).mono ?_
  rw [HV.out]
  rintro e w1 ⟨a1, g1, ha1, hs1, rfl, b1⟩
  have N1 := Lib.hid hs1
  have S1 := Lib.hid (S0.out.step b1)
  clear b1 hs1
  have kk := S1.out.at_ (List.mem_cons_self ..)
  have p0 := kk.cell 0
  have pf0 := kk.frozen 0
  have p1 := kk.cell 1
  have pf1 := kk.frozen 1
  have p2 := kk.cell 2
  have pf2 := kk.frozen 2
  clear kk
  have kk := S1.out.at_ (List.mem_cons_of_mem _ (List.mem_cons_self ..))
  have q0 := kk.cell 0
  have qf0 := kk.frozen 0
  have q1 := kk.cell 1
  have qf1 := kk.frozen 1
  have q2 := kk.cell 2
  have qf2 := kk.frozen 2
  have q3 := kk.cell 3
  have qf3 := kk.frozen 3
  have q4 := kk.cell 4
  have qf4 := kk.frozen 4
  have q5 := kk.cell 5
  have qf5 := kk.frozen 5
  have q6 := kk.cell 6
  have qf6 := kk.frozen 6
  have q7 := kk.cell 7
  have qf7 := kk.frozen 7
  have q8 := kk.cell 8
  have qf8 := kk.frozen 8
  have q9 := kk.cell 9
  have qf9 := kk.frozen 9
  have q10 := kk.cell 10
  have qf10 := kk.frozen 10
  have q11 := kk.cell 11
  have qf11 := kk.frozen 11
  clear kk
  have hw : IntKind.u16.wrap (v : Int) = (v : Int) := by rw [IntKind.wrap_u16]; omega
  go_wp2_with fail
  clear p0 pf0 p1 pf1 p2 pf2 q0 qf0 q1 qf1 q2 qf2 q3 qf3 q4 qf4 q5 qf5 q6 qf6 q7 qf7 q8 qf8 q9 qf9 q10 qf10 q11 qf11
  have s1 := ((S1.out.three8 (by omega) (by intro x hx; simp only [List.mem_cons, List.not_mem_nil, or_false] at hx; rcases hx with h | h | h <;> rw [h] <;> (dsimp only; omega)) (.slice A n c) (.int .i64 (a1 : Int)) (.bool g1)).sub8 (l' := [(w.heap.size, 40, (#[.int .u8 (k : Int), .int .u32 (id : Int), .int .u16 (code : Int), .bool last, .int .u64 (ep : Int), .int .u64 (fl : Int), .int .u64 (un : Int), .int .u64 (le : Int), .int .u64 (st : Int), .int .u64 (ti : Int), .slice Q n1 c1, .slice G m d] : Array Value)), (w.heap.size + 1, 117, (#[.slice A n c, .int .i64 (a1 : Int), .bool g1] : Array Value)), (w.heap.size + 1 + 1, 40, (#[.int .u8 0, .int .u32 0, .int .u16 0, .bool false, .int .u64 0, .int .u64 0, .int .u64 0, .int .u64 0, .int .u64 0, .int .u64 0, .slice none 0 0, .slice none 0 0] : Array Value)), (w.heap.size + 1 + 1 + 1, 117, (#[.slice none 0 0, .int .i64 0, .bool false] : Array Value))]) (by intro x hx; simp only [List.mem_cons, List.not_mem_nil, or_false] at hx ⊢; rcases hx with h | h | h | h <;> simp [h])).put8 (Nat.le_refl _) (by intro x hx; simp only [List.mem_cons, List.not_mem_nil, or_false] at hx; rcases hx with h | h | h <;> rw [h] <;> (dsimp only; omega)) 2 (.int .u16 ((v : Nat) : Int))
  obtain ⟨W1, hW⟩ : ∃ W, (((w1.setCell ⟨w.heap.size + 1, 0, none⟩ (.slice A n c)).setCell ⟨w.heap.size + 1, 1, none⟩ (.int .i64 (a1 : Int))).setCell ⟨w.heap.size + 1, 2, none⟩ (.bool g1)).setCell ⟨w.heap.size, 2, none⟩ (.int .u16 ((v : Nat) : Int)) = W := ⟨_, rfl⟩
  rw [hW] at s1 ⊢
  have Sx := Lib.hid s1
  clear hW s1
  have Sx : Hid (Held w W1 [(w.heap.size, 40, (#[.int .u8 (k : Int), .int .u32 (id : Int), .int .u16 ((v : Nat) : Int), .bool last, .int .u64 (ep : Int), .int .u64 (fl : Int), .int .u64 (un : Int), .int .u64 (le : Int), .int .u64 (st : Int), .int .u64 (ti : Int), .slice Q n1 c1, .slice G m d] : Array Value)), (w.heap.size + 1, 117, (#[.slice A n c, .int .i64 (a1 : Int), .bool g1] : Array Value)), (w.heap.size + 1 + 1, 40, (#[.int .u8 0, .int .u32 0, .int .u16 0, .bool false, .int .u64 0, .int .u64 0, .int .u64 0, .int .u64 0, .int .u64 0, .int .u64 0, .slice none 0 0, .slice none 0 0] : Array Value)), (w.heap.size + 1 + 1 + 1, 117, (#[.slice none 0 0, .int .i64 0, .bool false] : Array Value))]) := Lib.hid Sx.out
  have kk := Sx.out.at_ (List.mem_cons_self ..)
  have q0 := kk.cell 0
  have q1 := kk.cell 1
  have q2 := kk.cell 2
  have q3 := kk.cell 3
  have q4 := kk.cell 4
  have q5 := kk.cell 5
  have q6 := kk.cell 6
  have q7 := kk.cell 7
  have q8 := kk.cell 8
  have q9 := kk.cell 9
  have q10 := kk.cell 10
  have q11 := kk.cell 11
  clear kk
  have kk := Sx.out.at_ (List.mem_cons_of_mem _ (List.mem_cons_self ..))
  have p0 := kk.cell 0
  have p1 := kk.cell 1
  have p2 := kk.cell 2
  clear kk
  have kk := Sx.out.at_ (List.mem_cons_of_mem _ (List.mem_cons_of_mem _ (List.mem_cons_self ..)))
  have r0 := kk.cell 0
  have rf0 := kk.frozen 0
  have r1 := kk.cell 1
  have rf1 := kk.frozen 1
  have r2 := kk.cell 2
  have rf2 := kk.frozen 2
  have r3 := kk.cell 3
  have rf3 := kk.frozen 3
  have r4 := kk.cell 4
  have rf4 := kk.frozen 4
  have r5 := kk.cell 5
  have rf5 := kk.frozen 5
  have r6 := kk.cell 6
  have rf6 := kk.frozen 6
  have r7 := kk.cell 7
  have rf7 := kk.frozen 7
  have r8 := kk.cell 8
  have rf8 := kk.frozen 8
  have r9 := kk.cell 9
  have rf9 := kk.frozen 9
  have r10 := kk.cell 10
  have rf10 := kk.frozen 10
  have r11 := kk.cell 11
  have rf11 := kk.frozen 11
  clear kk
  have kk := Sx.out.at_ (List.mem_cons_of_mem _ (List.mem_cons_of_mem _ (List.mem_cons_of_mem _ (List.mem_cons_self ..))))
  have s0 := kk.cell 0
  have sf0 := kk.frozen 0
  have s1 := kk.cell 1
  have sf1 := kk.frozen 1
  have s2 := kk.cell 2
  have sf2 := kk.frozen 2
  clear kk
  go_region
  go_wp2_with fail
  clear q0 q1 q2 q3 q4 q5 q6 q7 q8 q9 q10 q11 p0 p1 p2 r0 rf0 r1 rf1 r2 rf2 r3 rf3 r4 rf4 r5 rf5 r6 rf6 r7 rf7 r8 rf8 r9 rf9 r10 rf10 r11 rf11 s0 sf0 s1 sf1 s2 sf2
  have T0 := Sx.out.sub8 (l' := [(w.heap.size + 1 + 1, 40, (#[.int .u8 0, .int .u32 0, .int .u16 0, .bool false, .int .u64 0, .int .u64 0, .int .u64 0, .int .u64 0, .int .u64 0, .int .u64 0, .slice none 0 0, .slice none 0 0] : Array Value)), (w.heap.size + 1 + 1 + 1, 117, (#[.slice none 0 0, .int .i64 0, .bool false] : Array Value)), (w.heap.size, 40, (#[.int .u8 (k : Int), .int .u32 (id : Int), .int .u16 ((v : Nat) : Int), .bool last, .int .u64 (ep : Int), .int .u64 (fl : Int), .int .u64 (un : Int), .int .u64 (le : Int), .int .u64 (st : Int), .int .u64 (ti : Int), .slice Q n1 c1, .slice G m d] : Array Value)), (w.heap.size + 1, 117, (#[.slice A n c, .int .i64 (a1 : Int), .bool g1] : Array Value))]) (by intro x hx; simp only [List.mem_cons, List.not_mem_nil, or_false] at hx ⊢; rcases hx with h | h | h | h <;> simp [h])
  have T1 := T0.twelve8 (by omega) (by intro x hx; simp only [List.mem_cons, List.not_mem_nil, or_false] at hx; rcases hx with h | h | h <;> rw [h] <;> (dsimp only; omega)) (.int .u8 (k : Int)) (.int .u32 (id : Int)) (.int .u16 ((v : Nat) : Int)) (.bool last) (.int .u64 (ep : Int)) (.int .u64 (fl : Int)) (.int .u64 (un : Int)) (.int .u64 (le : Int)) (.int .u64 (st : Int)) (.int .u64 (ti : Int)) (.slice Q n1 c1) (.slice G m d)
  have T2 := T1.sub8 (l' := [(w.heap.size + 1 + 1 + 1, 117, (#[.slice none 0 0, .int .i64 0, .bool false] : Array Value)), (w.heap.size + 1 + 1, 40, (#[.int .u8 (k : Int), .int .u32 (id : Int), .int .u16 ((v : Nat) : Int), .bool last, .int .u64 (ep : Int), .int .u64 (fl : Int), .int .u64 (un : Int), .int .u64 (le : Int), .int .u64 (st : Int), .int .u64 (ti : Int), .slice Q n1 c1, .slice G m d] : Array Value)), (w.heap.size, 40, (#[.int .u8 (k : Int), .int .u32 (id : Int), .int .u16 ((v : Nat) : Int), .bool last, .int .u64 (ep : Int), .int .u64 (fl : Int), .int .u64 (un : Int), .int .u64 (le : Int), .int .u64 (st : Int), .int .u64 (ti : Int), .slice Q n1 c1, .slice G m d] : Array Value)), (w.heap.size + 1, 117, (#[.slice A n c, .int .i64 (a1 : Int), .bool g1] : Array Value))]) (by intro x hx; simp only [List.mem_cons, List.not_mem_nil, or_false] at hx ⊢; rcases hx with h | h | h | h <;> simp [h])
  have T3 := T2.three8 (by omega) (by intro x hx; simp only [List.mem_cons, List.not_mem_nil, or_false] at hx; rcases hx with h | h | h <;> rw [h] <;> (dsimp only; omega)) (.slice A n c) (.int .i64 (a1 : Int)) (.bool g1)
  have FF := Lib.hid (And.intro (T3.at_ (List.mem_cons_self ..)) (And.intro (T3.at_ (List.mem_cons_of_mem _ (List.mem_cons_self ..))) T3.1))
  clear T0 T1 T2 T3
  obtain ⟨W6, hW⟩ : ∃ W, (((((((((((((((W1.setCell ⟨w.heap.size + 1 + 1, 0, none⟩ (.int .u8 (k : Int))).setCell ⟨w.heap.size + 1 + 1, 1, none⟩ (.int .u32 (id : Int))).setCell ⟨w.heap.size + 1 + 1, 2, none⟩ (.int .u16 ((v : Nat) : Int))).setCell ⟨w.heap.size + 1 + 1, 3, none⟩ (.bool last)).setCell ⟨w.heap.size + 1 + 1, 4, none⟩ (.int .u64 (ep : Int))).setCell ⟨w.heap.size + 1 + 1, 5, none⟩ (.int .u64 (fl : Int))).setCell ⟨w.heap.size + 1 + 1, 6, none⟩ (.int .u64 (un : Int))).setCell ⟨w.heap.size + 1 + 1, 7, none⟩ (.int .u64 (le : Int))).setCell ⟨w.heap.size + 1 + 1, 8, none⟩ (.int .u64 (st : Int))).setCell ⟨w.heap.size + 1 + 1, 9, none⟩ (.int .u64 (ti : Int))).setCell ⟨w.heap.size + 1 + 1, 10, none⟩ (.slice Q n1 c1)).setCell ⟨w.heap.size + 1 + 1, 11, none⟩ (.slice G m d)).setCell ⟨w.heap.size + 1 + 1 + 1, 0, none⟩ (.slice A n c)).setCell ⟨w.heap.size + 1 + 1 + 1, 1, none⟩ (.int .i64 (a1 : Int))).setCell ⟨w.heap.size + 1 + 1 + 1, 2, none⟩ (.bool g1)) = W := ⟨_, rfl⟩
  have GG : Blk W6 (w.heap.size + 1 + 1 + 1) 117 #[.slice A n c, .int .i64 (a1 : Int), .bool g1] ∧ Blk W6 (w.heap.size + 1 + 1) 40 #[.int .u8 (k : Int), .int .u32 (id : Int), .int .u16 ((v : Nat) : Int), .bool last, .int .u64 (ep : Int), .int .u64 (fl : Int), .int .u64 (un : Int), .int .u64 (le : Int), .int .u64 (st : Int), .int .u64 (ti : Int), .slice Q n1 c1, .slice G m d] ∧ Below w.heap.size w W6 := by
    rw [← hW]
    exact FF.out
  rw [hW]
  clear hW FF
  have f0 := GG.1.cell 0
  have f1 := GG.1.cell 1
  have f2 := GG.1.cell 2
  have h0 := GG.2.1.cell 0
  have h1 := GG.2.1.cell 1
  have h2 := GG.2.1.cell 2
  have h3 := GG.2.1.cell 3
  have h4 := GG.2.1.cell 4
  have h5 := GG.2.1.cell 5
  have h6 := GG.2.1.cell 6
  have h7 := GG.2.1.cell 7
  have h8 := GG.2.1.cell 8
  have h9 := GG.2.1.cell 9
  have h10 := GG.2.1.cell 10
  have h11 := GG.2.1.cell 11
  refine bodyPost_ret (v := .tuple #[.agg #[.int .u8 (k : Int), .int .u32 (id : Int), .int .u16 ((v : Nat) : Int), .bool last, .int .u64 (ep : Int), .int .u64 (fl : Int), .int .u64 (un : Int), .int .u64 (le : Int), .int .u64 (st : Int), .int .u64 (ti : Int), .slice Q n1 c1, .slice G m d], .agg #[.slice A n c, .int .i64 (a1 : Int), .bool g1], .bool false]) ?_ rfl ⟨a1, g1, ha1, N1.out, rfl, GG.2.2.drew⟩
  simp [results, Tryz.results65, go_sem, f0, f1, f2, h0, h1, h2, h3, h4, h5, h6, h7, h8, h9, h10, h11]
set_option maxRecDepth 100000 in
set_option maxHeartbeats 2000000 in
theorem refTakeLast_any (x : Rp.V) (n c a B v : Nat) (A : Option Addr) (b : List Nat) (f : Bool) (w : World) (hb : Bytes w B A n b) (hB : B ≤ w.heap.size) (hn : n ≤ 1000000) (ha : a ≤ n) (hv : Rp.vl (b.drop a, f) 1 = v) :
    Calls Tryz.prog 65 #[x.val, .int .u8 108, .agg #[.slice A n c, .int .i64 (a : Int), .bool f]] w fun e w' => ∃ a' g, a' ≤ n ∧ Rp.nx (b.drop a, f) 1 = (b.drop a', g) ∧ e = .returned (.tuple #[({ x with last := ((v : Int) == 1) } : Rp.V).val, .agg #[.slice A n c, .int .i64 (a' : Int), .bool g], .bool (decide ((1 : Int) < (v : Int)))]) ∧ Below w.heap.size w w' := by
  obtain ⟨k, id, code, last, ep, fl, un, le, st, ti, Q, n1, c1, G, m, d⟩ := x
  have HBY : Hid (∀ W, Below w.heap.size w W → Bytes W B A n b) := Lib.hid fun W hW => hb.below hW hB
  have HBS : Hid (∀ W, Below w.heap.size w W → B ≤ W.heap.size) := Lib.hid fun W hW => Nat.le_trans hB hW.size
  have S0 := Lib.hid (((((Held.start w).new #[.int .u8 (k : Int), .int .u32 (id : Int), .int .u16 (code : Int), .bool last, .int .u64 (ep : Int), .int .u64 (fl : Int), .int .u64 (un : Int), .int .u64 (le : Int), .int .u64 (st : Int), .int .u64 (ti : Int), .slice Q n1 c1, .slice G m d] 40).new #[.slice A n c, .int .i64 (a : Int), .bool f] 117).new #[.int .u8 0, .int .u32 0, .int .u16 0, .bool false, .int .u64 0, .int .u64 0, .int .u64 0, .int .u64 0, .int .u64 0, .int .u64 0, .slice none 0 0, .slice none 0 0] 40).new #[.slice none 0 0, .int .i64 0, .bool false] 117)
  simp only [World.size_alloc] at S0
  have HV := Lib.hid hv
  clear hb hB hv
  unfold Rp.V.val Rp.V.cells
  dsimp only
  go_enter Tryz.func65, Tryz.ntmps65
  go_wp2_with fail
  obtain ⟨W0, hW0⟩ : ∃ W, (((w.alloc (.cells #[.int .u8 (k : Int), .int .u32 (id : Int), .int .u16 (code : Int), .bool last, .int .u64 (ep : Int), .int .u64 (fl : Int), .int .u64 (un : Int), .int .u64 (le : Int), .int .u64 (st : Int), .int .u64 (ti : Int), .slice Q n1 c1, .slice G m d] 40)).alloc (.cells #[.slice A n c, .int .i64 (a : Int), .bool f] 117)).alloc (.cells #[.int .u8 0, .int .u32 0, .int .u16 0, .bool false, .int .u64 0, .int .u64 0, .int .u64 0, .int .u64 0, .int .u64 0, .int .u64 0, .slice none 0 0, .slice none 0 0] 40)).alloc (.cells #[.slice none 0 0, .int .i64 0, .bool false] 117) = W := ⟨_, rfl⟩
  rw [hW0] at S0 ⊢
  clear hW0
  have S0 := Lib.hid (S0.out.sub8 (l' := [(w.heap.size + 1, 117, (#[.slice A n c, .int .i64 (a : Int), .bool f] : Array Value)), (w.heap.size, 40, (#[.int .u8 (k : Int), .int .u32 (id : Int), .int .u16 (code : Int), .bool last, .int .u64 (ep : Int), .int .u64 (fl : Int), .int .u64 (un : Int), .int .u64 (le : Int), .int .u64 (st : Int), .int .u64 (ti : Int), .slice Q n1 c1, .slice G m d] : Array Value)), (w.heap.size + 1 + 1, 40, (#[.int .u8 0, .int .u32 0, .int .u16 0, .bool false, .int .u64 0, .int .u64 0, .int .u64 0, .int .u64 0, .int .u64 0, .int .u64 0, .slice none 0 0, .slice none 0 0] : Array Value)), (w.heap.size + 1 + 1 + 1, 117, (#[.slice none 0 0, .int .i64 0, .bool false] : Array Value))]) (by intro x hx; simp only [List.mem_cons, List.not_mem_nil, or_false] at hx ⊢; rcases hx with h | h | h | h <;> simp [h]))
  refine (rt_take (c := c) 1 (HBY.out W0 S0.out.1) (HBS.out W0 S0.out.1) hn ha (by omega)).mono ?_
  rw [HV.out]
  rintro e w1 ⟨a1, g1, ha1, hs1, rfl, b1⟩
  have N1 := Lib.hid hs1
  have S1 := Lib.hid (S0.out.step b1)
  clear b1 hs1
  have kk := S1.out.at_ (List.mem_cons_self ..)
  have p0 := kk.cell 0
  have pf0 := kk.frozen 0
  have p1 := kk.cell 1
  have pf1 := kk.frozen 1
  have p2 := kk.cell 2
  have pf2 := kk.frozen 2
  clear kk
  have kk := S1.out.at_ (List.mem_cons_of_mem _ (List.mem_cons_self ..))
  have q0 := kk.cell 0
  have qf0 := kk.frozen 0
  have q1 := kk.cell 1
  have qf1 := kk.frozen 1
  have q2 := kk.cell 2
  have qf2 := kk.frozen 2
  have q3 := kk.cell 3
  have qf3 := kk.frozen 3
  have q4 := kk.cell 4
  have qf4 := kk.frozen 4
  have q5 := kk.cell 5
  have qf5 := kk.frozen 5
  have q6 := kk.cell 6
  have qf6 := kk.frozen 6
  have q7 := kk.cell 7
  have qf7 := kk.frozen 7
  have q8 := kk.cell 8
  have qf8 := kk.frozen 8
  have q9 := kk.cell 9
  have qf9 := kk.frozen 9
  have q10 := kk.cell 10
  have qf10 := kk.frozen 10
  have q11 := kk.cell 11
  have qf11 := kk.frozen 11
  clear kk
  go_wp2_with fail
  clear p0 pf0 p1 pf1 p2 pf2 q0 qf0 q1 qf1 q2 qf2 q3 qf3 q4 qf4 q5 qf5 q6 qf6 q7 qf7 q8 qf8 q9 qf9 q10 qf10 q11 qf11
  have s1 := ((S1.out.three8 (by omega) (by intro x hx; simp only [List.mem_cons, List.not_mem_nil, or_false] at hx; rcases hx with h | h | h <;> rw [h] <;> (dsimp only; omega)) (.slice A n c) (.int .i64 (a1 : Int)) (.bool g1)).sub8 (l' := [(w.heap.size, 40, (#[.int .u8 (k : Int), .int .u32 (id : Int), .int .u16 (code : Int), .bool last, .int .u64 (ep : Int), .int .u64 (fl : Int), .int .u64 (un : Int), .int .u64 (le : Int), .int .u64 (st : Int), .int .u64 (ti : Int), .slice Q n1 c1, .slice G m d] : Array Value)), (w.heap.size + 1, 117, (#[.slice A n c, .int .i64 (a1 : Int), .bool g1] : Array Value)), (w.heap.size + 1 + 1, 40, (#[.int .u8 0, .int .u32 0, .int .u16 0, .bool false, .int .u64 0, .int .u64 0, .int .u64 0, .int .u64 0, .int .u64 0, .int .u64 0, .slice none 0 0, .slice none 0 0] : Array Value)), (w.heap.size + 1 + 1 + 1, 117, (#[.slice none 0 0, .int .i64 0, .bool false] : Array Value))]) (by intro x hx; simp only [List.mem_cons, List.not_mem_nil, or_false] at hx ⊢; rcases hx with h | h | h | h <;> simp [h])).put8 (Nat.le_refl _) (by intro x hx; simp only [List.mem_cons, List.not_mem_nil, or_false] at hx; rcases hx with h | h | h <;> rw [h] <;> (dsimp only; omega)) 3 (.bool ((v : Int) == 1))
  obtain ⟨W1, hW⟩ : ∃ W, (((w1.setCell ⟨w.heap.size + 1, 0, none⟩ (.slice A n c)).setCell ⟨w.heap.size + 1, 1, none⟩ (.int .i64 (a1 : Int))).setCell ⟨w.heap.size + 1, 2, none⟩ (.bool g1)).setCell ⟨w.heap.size, 3, none⟩ (.bool ((v : Int) == 1)) = W := ⟨_, rfl⟩
  rw [hW] at s1 ⊢
  have Sx := Lib.hid s1
  clear hW s1
  have Sx : Hid (Held w W1 [(w.heap.size, 40, (#[.int .u8 (k : Int), .int .u32 (id : Int), .int .u16 (code : Int), .bool ((v : Int) == 1), .int .u64 (ep : Int), .int .u64 (fl : Int), .int .u64 (un : Int), .int .u64 (le : Int), .int .u64 (st : Int), .int .u64 (ti : Int), .slice Q n1 c1, .slice G m d] : Array Value)), (w.heap.size + 1, 117, (#[.slice A n c, .int .i64 (a1 : Int), .bool g1] : Array Value)), (w.heap.size + 1 + 1, 40, (#[.int .u8 0, .int .u32 0, .int .u16 0, .bool false, .int .u64 0, .int .u64 0, .int .u64 0, .int .u64 0, .int .u64 0, .int .u64 0, .slice none 0 0, .slice none 0 0] : Array Value)), (w.heap.size + 1 + 1 + 1, 117, (#[.slice none 0 0, .int .i64 0, .bool false] : Array Value))]) := Lib.hid Sx.out
  have kk := Sx.out.at_ (List.mem_cons_self ..)
  have q0 := kk.cell 0
  have q1 := kk.cell 1
  have q2 := kk.cell 2
  have q3 := kk.cell 3
  have q4 := kk.cell 4
  have q5 := kk.cell 5
  have q6 := kk.cell 6
  have q7 := kk.cell 7
  have q8 := kk.cell 8
  have q9 := kk.cell 9
  have q10 := kk.cell 10
  have q11 := kk.cell 11
  clear kk
  have kk := Sx.out.at_ (List.mem_cons_of_mem _ (List.mem_cons_self ..))
  have p0 := kk.cell 0
  have p1 := kk.cell 1
  have p2 := kk.cell 2
  clear kk
  have kk := Sx.out.at_ (List.mem_cons_of_mem _ (List.mem_cons_of_mem _ (List.mem_cons_self ..)))
  have r0 := kk.cell 0
  have rf0 := kk.frozen 0
  have r1 := kk.cell 1
  have rf1 := kk.frozen 1
  have r2 := kk.cell 2
  have rf2 := kk.frozen 2
  have r3 := kk.cell 3
  have rf3 := kk.frozen 3
  have r4 := kk.cell 4
  have rf4 := kk.frozen 4
  have r5 := kk.cell 5
  have rf5 := kk.frozen 5
  have r6 := kk.cell 6
  have rf6 := kk.frozen 6
  have r7 := kk.cell 7
  have rf7 := kk.frozen 7
  have r8 := kk.cell 8
  have rf8 := kk.frozen 8
  have r9 := kk.cell 9
  have rf9 := kk.frozen 9
  have r10 := kk.cell 10
  have rf10 := kk.frozen 10
  have r11 := kk.cell 11
  have rf11 := kk.frozen 11
  clear kk
  have kk := Sx.out.at_ (List.mem_cons_of_mem _ (List.mem_cons_of_mem _ (List.mem_cons_of_mem _ (List.mem_cons_self ..))))
  have s0 := kk.cell 0
  have sf0 := kk.frozen 0
  have s1 := kk.cell 1
  have sf1 := kk.frozen 1
  have s2 := kk.cell 2
  have sf2 := kk.frozen 2
  clear kk
  go_region
  go_wp2_with fail
  clear q0 q1 q2 q3 q4 q5 q6 q7 q8 q9 q10 q11 p0 p1 p2 r0 rf0 r1 rf1 r2 rf2 r3 rf3 r4 rf4 r5 rf5 r6 rf6 r7 rf7 r8 rf8 r9 rf9 r10 rf10 r11 rf11 s0 sf0 s1 sf1 s2 sf2
  have T0 := Sx.out.sub8 (l' := [(w.heap.size + 1 + 1, 40, (#[.int .u8 0, .int .u32 0, .int .u16 0, .bool false, .int .u64 0, .int .u64 0, .int .u64 0, .int .u64 0, .int .u64 0, .int .u64 0, .slice none 0 0, .slice none 0 0] : Array Value)), (w.heap.size + 1 + 1 + 1, 117, (#[.slice none 0 0, .int .i64 0, .bool false] : Array Value)), (w.heap.size, 40, (#[.int .u8 (k : Int), .int .u32 (id : Int), .int .u16 (code : Int), .bool ((v : Int) == 1), .int .u64 (ep : Int), .int .u64 (fl : Int), .int .u64 (un : Int), .int .u64 (le : Int), .int .u64 (st : Int), .int .u64 (ti : Int), .slice Q n1 c1, .slice G m d] : Array Value)), (w.heap.size + 1, 117, (#[.slice A n c, .int .i64 (a1 : Int), .bool g1] : Array Value))]) (by intro x hx; simp only [List.mem_cons, List.not_mem_nil, or_false] at hx ⊢; rcases hx with h | h | h | h <;> simp [h])
  have T1 := T0.twelve8 (by omega) (by intro x hx; simp only [List.mem_cons, List.not_mem_nil, or_false] at hx; rcases hx with h | h | h <;> rw [h] <;> (dsimp only; omega)) (.int .u8 (k : Int)) (.int .u32 (id : Int)) (.int .u16 (code : Int)) (.bool ((v : Int) == 1)) (.int .u64 (ep : Int)) (.int .u64 (fl : Int)) (.int .u64 (un : Int)) (.int .u64 (le : Int)) (.int .u64 (st : Int)) (.int .u64 (ti : Int)) (.slice Q n1 c1) (.slice G m d)
  have T2 := T1.sub8 (l' := [(w.heap.size + 1 + 1 + 1, 117, (#[.slice none 0 0, .int .i64 0, .bool false] : Array Value)), (w.heap.size + 1 + 1, 40, (#[.int .u8 (k : Int), .int .u32 (id : Int), .int .u16 (code : Int), .bool ((v : Int) == 1), .int .u64 (ep : Int), .int .u64 (fl : Int), .int .u64 (un : Int), .int .u64 (le : Int), .int .u64 (st : Int), .int .u64 (ti : Int), .slice Q n1 c1, .slice G m d] : Array Value)), (w.heap.size, 40, (#[.int .u8 (k : Int), .int .u32 (id : Int), .int .u16 (code : Int), .bool ((v : Int) == 1), .int .u64 (ep : Int), .int .u64 (fl : Int), .int .u64 (un : Int), .int .u64 (le : Int), .int .u64 (st : Int), .int .u64 (ti : Int), .slice Q n1 c1, .slice G m d] : Array Value)), (w.heap.size + 1, 117, (#[.slice A n c, .int .i64 (a1 : Int), .bool g1] : Array Value))]) (by intro x hx; simp only [List.mem_cons, List.not_mem_nil, or_false] at hx ⊢; rcases hx with h | h | h | h <;> simp [h])
  have T3 := T2.three8 (by omega) (by intro x hx; simp only [List.mem_cons, List.not_mem_nil, or_false] at hx; rcases hx with h | h | h <;> rw [h] <;> (dsimp only; omega)) (.slice A n c) (.int .i64 (a1 : Int)) (.bool g1)
  have FF := Lib.hid (And.intro (T3.at_ (List.mem_cons_self ..)) (And.intro (T3.at_ (List.mem_cons_of_mem _ (List.mem_cons_self ..))) T3.1))
  clear T0 T1 T2 T3
  obtain ⟨W6, hW⟩ : ∃ W, (((((((((((((((W1.setCell ⟨w.heap.size + 1 + 1, 0, none⟩ (.int .u8 (k : Int))).setCell ⟨w.heap.size + 1 + 1, 1, none⟩ (.int .u32 (id : Int))).setCell ⟨w.heap.size + 1 + 1, 2, none⟩ (.int .u16 (code : Int))).setCell ⟨w.heap.size + 1 + 1, 3, none⟩ (.bool ((v : Int) == 1))).setCell ⟨w.heap.size + 1 + 1, 4, none⟩ (.int .u64 (ep : Int))).setCell ⟨w.heap.size + 1 + 1, 5, none⟩ (.int .u64 (fl : Int))).setCell ⟨w.heap.size + 1 + 1, 6, none⟩ (.int .u64 (un : Int))).setCell ⟨w.heap.size + 1 + 1, 7, none⟩ (.int .u64 (le : Int))).setCell ⟨w.heap.size + 1 + 1, 8, none⟩ (.int .u64 (st : Int))).setCell ⟨w.heap.size + 1 + 1, 9, none⟩ (.int .u64 (ti : Int))).setCell ⟨w.heap.size + 1 + 1, 10, none⟩ (.slice Q n1 c1)).setCell ⟨w.heap.size + 1 + 1, 11, none⟩ (.slice G m d)).setCell ⟨w.heap.size + 1 + 1 + 1, 0, none⟩ (.slice A n c)).setCell ⟨w.heap.size + 1 + 1 + 1, 1, none⟩ (.int .i64 (a1 : Int))).setCell ⟨w.heap.size + 1 + 1 + 1, 2, none⟩ (.bool g1)) = W := ⟨_, rfl⟩
  have GG : Blk W6 (w.heap.size + 1 + 1 + 1) 117 #[.slice A n c, .int .i64 (a1 : Int), .bool g1] ∧ Blk W6 (w.heap.size + 1 + 1) 40 #[.int .u8 (k : Int), .int .u32 (id : Int), .int .u16 (code : Int), .bool ((v : Int) == 1), .int .u64 (ep : Int), .int .u64 (fl : Int), .int .u64 (un : Int), .int .u64 (le : Int), .int .u64 (st : Int), .int .u64 (ti : Int), .slice Q n1 c1, .slice G m d] ∧ Below w.heap.size w W6 := by
    rw [← hW]
    exact FF.out
  rw [hW]
  clear hW FF
  have f0 := GG.1.cell 0
  have f1 := GG.1.cell 1
  have f2 := GG.1.cell 2
  have h0 := GG.2.1.cell 0
  have h1 := GG.2.1.cell 1
  have h2 := GG.2.1.cell 2
  have h3 := GG.2.1.cell 3
  have h4 := GG.2.1.cell 4
  have h5 := GG.2.1.cell 5
  have h6 := GG.2.1.cell 6
  have h7 := GG.2.1.cell 7
  have h8 := GG.2.1.cell 8
  have h9 := GG.2.1.cell 9
  have h10 := GG.2.1.cell 10
  have h11 := GG.2.1.cell 11
  refine bodyPost_ret (v := .tuple #[.agg #[.int .u8 (k : Int), .int .u32 (id : Int), .int .u16 (code : Int), .bool ((v : Int) == 1), .int .u64 (ep : Int), .int .u64 (fl : Int), .int .u64 (un : Int), .int .u64 (le : Int), .int .u64 (st : Int), .int .u64 (ti : Int), .slice Q n1 c1, .slice G m d], .agg #[.slice A n c, .int .i64 (a1 : Int), .bool g1], .bool (decide ((1 : Int) < (v : Int)))]) ?_ rfl ⟨a1, g1, ha1, N1.out, rfl, GG.2.2.drew⟩
  simp [results, Tryz.results65, go_sem, f0, f1, f2, h0, h1, h2, h3, h4, h5, h6, h7, h8, h9, h10, h11]
set_option maxRecDepth 100000 in
set_option maxHeartbeats 2000000 in
theorem refTakeEpoch_any (x : Rp.V) (n c a B v : Nat) (A : Option Addr) (b : List Nat) (f : Bool) (w : World) (hb : Bytes w B A n b) (hB : B ≤ w.heap.size) (hn : n ≤ 1000000) (ha : a ≤ n) (hv : Rp.vl (b.drop a, f) 8 = v) :
    Calls Tryz.prog 65 #[x.val, .int .u8 101, .agg #[.slice A n c, .int .i64 (a : Int), .bool f]] w fun e w' => ∃ a' g, a' ≤ n ∧ Rp.nx (b.drop a, f) 8 = (b.drop a', g) ∧ e = .returned (.tuple #[({ x with ep := v } : Rp.V).val, .agg #[.slice A n c, .int .i64 (a' : Int), .bool g], .bool false]) ∧ Below w.heap.size w w' := by
  obtain ⟨k, id, code, last, ep, fl, un, le, st, ti, Q, n1, c1, G, m, d⟩ := x
  have HBY : Hid (∀ W, Below w.heap.size w W → Bytes W B A n b) := Lib.hid fun W hW => hb.below hW hB
  have HBS : Hid (∀ W, Below w.heap.size w W → B ≤ W.heap.size) := Lib.hid fun W hW => Nat.le_trans hB hW.size
  have S0 := Lib.hid (((((Held.start w).new #[.int .u8 (k : Int), .int .u32 (id : Int), .int .u16 (code : Int), .bool last, .int .u64 (ep : Int), .int .u64 (fl : Int), .int .u64 (un : Int), .int .u64 (le : Int), .int .u64 (st : Int), .int .u64 (ti : Int), .slice Q n1 c1, .slice G m d] 40).new #[.slice A n c, .int .i64 (a : Int), .bool f] 117).new #[.int .u8 0, .int .u32 0, .int .u16 0, .bool false, .int .u64 0, .int .u64 0, .int .u64 0, .int .u64 0, .int .u64 0, .int .u64 0, .slice none 0 0, .slice none 0 0] 40).new #[.slice none 0 0, .int .i64 0, .bool false] 117)
  simp only [World.size_alloc] at S0
  have HV := Lib.hid hv
  clear hb hB hv
  unfold Rp.V.val Rp.V.cells
  dsimp only
  go_enter Tryz.func65, Tryz.ntmps65
  go_wp2_with fail
  obtain ⟨W0, hW0⟩ : ∃ W, (((w.alloc (.cells #[.int .u8 (k : Int), .int .u32 (id : Int), .int .u16 (code : Int), .bool last, .int .u64 (ep : Int), .int .u64 (fl : Int), .int .u64 (un : Int), .int .u64 (le : Int), .int .u64 (st : Int), .int .u64 (ti : Int), .slice Q n1 c1, .slice G m d] 40)).alloc (.cells #[.slice A n c, .int .i64 (a : Int), .bool f] 117)).alloc (.cells #[.int .u8 0, .int .u32 0, .int .u16 0, .bool false, .int .u64 0, .int .u64 0, .int .u64 0, .int .u64 0, .int .u64 0, .int .u64 0, .slice none 0 0, .slice none 0 0] 40)).alloc (.cells #[.slice none 0 0, .int .i64 0, .bool false] 117) = W := ⟨_, rfl⟩
  rw [hW0] at S0 ⊢
  clear hW0
  have S0 := Lib.hid (S0.out.sub8 (l' := [(w.heap.size + 1, 117, (#[.slice A n c, .int .i64 (a : Int), .bool f] : Array Value)), (w.heap.size, 40, (#[.int .u8 (k : Int), .int .u32 (id : Int), .int .u16 (code : Int), .bool last, .int .u64 (ep : Int), .int .u64 (fl : Int), .int .u64 (un : Int), .int .u64 (le : Int), .int .u64 (st : Int), .int .u64 (ti : Int), .slice Q n1 c1, .slice G m d] : Array Value)), (w.heap.size + 1 + 1, 40, (#[.int .u8 0, .int .u32 0, .int .u16 0, .bool false, .int .u64 0, .int .u64 0, .int .u64 0, .int .u64 0, .int .u64 0, .int .u64 0, .slice none 0 0, .slice none 0 0] : Array Value)), (w.heap.size + 1 + 1 + 1, 117, (#[.slice none 0 0, .int .i64 0, .bool false] : Array Value))]) (by intro x hx; simp only [List.mem_cons, List.not_mem_nil, or_false] at hx ⊢; rcases hx with h | h | h | h <;> simp [h]))
  refine (rt_take (c := c) 8 (HBY.out W0 S0.out.1) (HBS.out W0 S0.out.1) hn ha (by omega)).mono ?_
  rw [HV.out]
  rintro e w1 ⟨a1, g1, ha1, hs1, rfl, b1⟩
  have N1 := Lib.hid hs1
  have S1 := Lib.hid (S0.out.step b1)
  clear b1 hs1
  have kk := S1.out.at_ (List.mem_cons_self ..)
  have p0 := kk.cell 0
  have pf0 := kk.frozen 0
  have p1 := kk.cell 1
  have pf1 := kk.frozen 1
  have p2 := kk.cell 2
  have pf2 := kk.frozen 2
  clear kk
  have kk := S1.out.at_ (List.mem_cons_of_mem _ (List.mem_cons_self ..))
  have q0 := kk.cell 0
  have qf0 := kk.frozen 0
  have q1 := kk.cell 1
  have qf1 := kk.frozen 1
  have q2 := kk.cell 2
  have qf2 := kk.frozen 2
  have q3 := kk.cell 3
  have qf3 := kk.frozen 3
  have q4 := kk.cell 4
  have qf4 := kk.frozen 4
  have q5 := kk.cell 5
  have qf5 := kk.frozen 5
  have q6 := kk.cell 6
  have qf6 := kk.frozen 6
  have q7 := kk.cell 7
  have qf7 := kk.frozen 7
  have q8 := kk.cell 8
  have qf8 := kk.frozen 8
  have q9 := kk.cell 9
  have qf9 := kk.frozen 9
  have q10 := kk.cell 10
  have qf10 := kk.frozen 10
  have q11 := kk.cell 11
  have qf11 := kk.frozen 11
  clear kk
  go_wp2_with fail
  clear p0 pf0 p1 pf1 p2 pf2 q0 qf0 q1 qf1 q2 qf2 q3 qf3 q4 qf4 q5 qf5 q6 qf6 q7 qf7 q8 qf8 q9 qf9 q10 qf10 q11 qf11
  have s1 := ((S1.out.three8 (by omega) (by intro x hx; simp only [List.mem_cons, List.not_mem_nil, or_false] at hx; rcases hx with h | h | h <;> rw [h] <;> (dsimp only; omega)) (.slice A n c) (.int .i64 (a1 : Int)) (.bool g1)).sub8 (l' := [(w.heap.size, 40, (#[.int .u8 (k : Int), .int .u32 (id : Int), .int .u16 (code : Int), .bool last, .int .u64 (ep : Int), .int .u64 (fl : Int), .int .u64 (un : Int), .int .u64 (le : Int), .int .u64 (st : Int), .int .u64 (ti : Int), .slice Q n1 c1, .slice G m d] : Array Value)), (w.heap.size + 1, 117, (#[.slice A n c, .int .i64 (a1 : Int), .bool g1] : Array Value)), (w.heap.size + 1 + 1, 40, (#[.int .u8 0, .int .u32 0, .int .u16 0, .bool false, .int .u64 0, .int .u64 0, .int .u64 0, .int .u64 0, .int .u64 0, .int .u64 0, .slice none 0 0, .slice none 0 0] : Array Value)), (w.heap.size + 1 + 1 + 1, 117, (#[.slice none 0 0, .int .i64 0, .bool false] : Array Value))]) (by intro x hx; simp only [List.mem_cons, List.not_mem_nil, or_false] at hx ⊢; rcases hx with h | h | h | h <;> simp [h])).put8 (Nat.le_refl _) (by intro x hx; simp only [List.mem_cons, List.not_mem_nil, or_false] at hx; rcases hx with h | h | h <;> rw [h] <;> (dsimp only; omega)) 4 (.int .u64 ((v : Nat) : Int))
  obtain ⟨W1, hW⟩ : ∃ W, (((w1.setCell ⟨w.heap.size + 1, 0, none⟩ (.slice A n c)).setCell ⟨w.heap.size + 1, 1, none⟩ (.int .i64 (a1 : Int))).setCell ⟨w.heap.size + 1, 2, none⟩ (.bool g1)).setCell ⟨w.heap.size, 4, none⟩ (.int .u64 ((v : Nat) : Int)) = W := ⟨_, rfl⟩
  rw [hW] at s1 ⊢
  have Sx := Lib.hid s1
  clear hW s1
  have Sx : Hid (Held w W1 [(w.heap.size, 40, (#[.int .u8 (k : Int), .int .u32 (id : Int), .int .u16 (code : Int), .bool last, .int .u64 ((v : Nat) : Int), .int .u64 (fl : Int), .int .u64 (un : Int), .int .u64 (le : Int), .int .u64 (st : Int), .int .u64 (ti : Int), .slice Q n1 c1, .slice G m d] : Array Value)), (w.heap.size + 1, 117, (#[.slice A n c, .int .i64 (a1 : Int), .bool g1] : Array Value)), (w.heap.size + 1 + 1, 40, (#[.int .u8 0, .int .u32 0, .int .u16 0, .bool false, .int .u64 0, .int .u64 0, .int .u64 0, .int .u64 0, .int .u64 0, .int .u64 0, .slice none 0 0, .slice none 0 0] : Array Value)), (w.heap.size + 1 + 1 + 1, 117, (#[.slice none 0 0, .int .i64 0, .bool false] : Array Value))]) := Lib.hid Sx.out
  have kk := Sx.out.at_ (List.mem_cons_self ..)
  have q0 := kk.cell 0
  have q1 := kk.cell 1
  have q2 := kk.cell 2
  have q3 := kk.cell 3
  have q4 := kk.cell 4
  have q5 := kk.cell 5
  have q6 := kk.cell 6
  have q7 := kk.cell 7
  have q8 := kk.cell 8
  have q9 := kk.cell 9
  have q10 := kk.cell 10
  have q11 := kk.cell 11
  clear kk
  have kk := Sx.out.at_ (List.mem_cons_of_mem _ (List.mem_cons_self ..))
  have p0 := kk.cell 0
  have p1 := kk.cell 1
  have p2 := kk.cell 2
  clear kk
  have kk := Sx.out.at_ (List.mem_cons_of_mem _ (List.mem_cons_of_mem _ (List.mem_cons_self ..)))
  have r0 := kk.cell 0
  have rf0 := kk.frozen 0
  have r1 := kk.cell 1
  have rf1 := kk.frozen 1
  have r2 := kk.cell 2
  have rf2 := kk.frozen 2
  have r3 := kk.cell 3
  have rf3 := kk.frozen 3
  have r4 := kk.cell 4
  have rf4 := kk.frozen 4
  have r5 := kk.cell 5
  have rf5 := kk.frozen 5
  have r6 := kk.cell 6
  have rf6 := kk.frozen 6
  have r7 := kk.cell 7
  have rf7 := kk.frozen 7
  have r8 := kk.cell 8
  have rf8 := kk.frozen 8
  have r9 := kk.cell 9
  have rf9 := kk.frozen 9
  have r10 := kk.cell 10
  have rf10 := kk.frozen 10
  have r11 := kk.cell 11
  have rf11 := kk.frozen 11
  clear kk
  have kk := Sx.out.at_ (List.mem_cons_of_mem _ (List.mem_cons_of_mem _ (List.mem_cons_of_mem _ (List.mem_cons_self ..))))
  have s0 := kk.cell 0
  have sf0 := kk.frozen 0
  have s1 := kk.cell 1
  have sf1 := kk.frozen 1
  have s2 := kk.cell 2
  have sf2 := kk.frozen 2
  clear kk
  go_region
  go_wp2_with fail
  clear q0 q1 q2 q3 q4 q5 q6 q7 q8 q9 q10 q11 p0 p1 p2 r0 rf0 r1 rf1 r2 rf2 r3 rf3 r4 rf4 r5 rf5 r6 rf6 r7 rf7 r8 rf8 r9 rf9 r10 rf10 r11 rf11 s0 sf0 s1 sf1 s2 sf2
  have T0 := Sx.out.sub8 (l' := [(w.heap.size + 1 + 1, 40, (#[.int .u8 0, .int .u32 0, .int .u16 0, .bool false, .int .u64 0, .int .u64 0, .int .u64 0, .int .u64 0, .int .u64 0, .int .u64 0, .slice none 0 0, .slice none 0 0] : Array Value)), (w.heap.size + 1 + 1 + 1, 117, (#[.slice none 0 0, .int .i64 0, .bool false] : Array Value)), (w.heap.size, 40, (#[.int .u8 (k : Int), .int .u32 (id : Int), .int .u16 (code : Int), .bool last, .int .u64 ((v : Nat) : Int), .int .u64 (fl : Int), .int .u64 (un : Int), .int .u64 (le : Int), .int .u64 (st : Int), .int .u64 (ti : Int), .slice Q n1 c1, .slice G m d] : Array Value)), (w.heap.size + 1, 117, (#[.slice A n c, .int .i64 (a1 : Int), .bool g1] : Array Value))]) (by intro x hx; simp only [List.mem_cons, List.not_mem_nil, or_false] at hx ⊢; rcases hx with h | h | h | h <;> simp [h])
  have T1 := T0.twelve8 (by omega) (by intro x hx; simp only [List.mem_cons, List.not_mem_nil, or_false] at hx; rcases hx with h | h | h <;> rw [h] <;> (dsimp only; omega)) (.int .u8 (k : Int)) (.int .u32 (id : Int)) (.int .u16 (code : Int)) (.bool last) (.int .u64 ((v : Nat) : Int)) (.int .u64 (fl : Int)) (.int .u64 (un : Int)) (.int .u64 (le : Int)) (.int .u64 (st : Int)) (.int .u64 (ti : Int)) (.slice Q n1 c1) (.slice G m d)
  have T2 := T1.sub8 (l' := [(w.heap.size + 1 + 1 + 1, 117, (#[.slice none 0 0, .int .i64 0, .bool false] : Array Value)), (w.heap.size + 1 + 1, 40, (#[.int .u8 (k : Int), .int .u32 (id : Int), .int .u16 (code : Int), .bool last, .int .u64 ((v : Nat) : Int), .int .u64 (fl : Int), .int .u64 (un : Int), .int .u64 (le : Int), .int .u64 (st : Int), .int .u64 (ti : Int), .slice Q n1 c1, .slice G m d] : Array Value)), (w.heap.size, 40, (#[.int .u8 (k : Int), .int .u32 (id : Int), .int .u16 (code : Int), .bool last, .int .u64 ((v : Nat) : Int), .int .u64 (fl : Int), .int .u64 (un : Int), .int .u64 (le : Int), .int .u64 (st : Int), .int .u64 (ti : Int), .slice Q n1 c1, .slice G m d] : Array Value)), (w.heap.size + 1, 117, (#[.slice A n c, .int .i64 (a1 : Int), .bool g1] : Array Value))]) (by intro x hx; simp only [List.mem_cons, List.not_mem_nil, or_false] at hx ⊢; rcases hx with h | h | h | h <;> simp [h])
  have T3 := T2.three8 (by omega) (by intro x hx; simp only [List.mem_cons, List.not_mem_nil, or_false] at hx; rcases hx with h | h | h <;> rw [h] <;> (dsimp only; omega)) (.slice A n c) (.int .i64 (a1 : Int)) (.bool g1)
  have FF := Lib.hid (And.intro (T3.at_ (List.mem_cons_self ..)) (And.intro (T3.at_ (List.mem_cons_of_mem _ (List.mem_cons_self ..))) T3.1))
  clear T0 T1 T2 T3
  obtain ⟨W6, hW⟩ : ∃ W, (((((((((((((((W1.setCell ⟨w.heap.size + 1 + 1, 0, none⟩ (.int .u8 (k : Int))).setCell ⟨w.heap.size + 1 + 1, 1, none⟩ (.int .u32 (id : Int))).setCell ⟨w.heap.size + 1 + 1, 2, none⟩ (.int .u16 (code : Int))).setCell ⟨w.heap.size + 1 + 1, 3, none⟩ (.bool last)).setCell ⟨w.heap.size + 1 + 1, 4, none⟩ (.int .u64 ((v : Nat) : Int))).setCell ⟨w.heap.size + 1 + 1, 5, none⟩ (.int .u64 (fl : Int))).setCell ⟨w.heap.size + 1 + 1, 6, none⟩ (.int .u64 (un : Int))).setCell ⟨w.heap.size + 1 + 1, 7, none⟩ (.int .u64 (le : Int))).setCell ⟨w.heap.size + 1 + 1, 8, none⟩ (.int .u64 (st : Int))).setCell ⟨w.heap.size + 1 + 1, 9, none⟩ (.int .u64 (ti : Int))).setCell ⟨w.heap.size + 1 + 1, 10, none⟩ (.slice Q n1 c1)).setCell ⟨w.heap.size + 1 + 1, 11, none⟩ (.slice G m d)).setCell ⟨w.heap.size + 1 + 1 + 1, 0, none⟩ (.slice A n c)).setCell ⟨w.heap.size + 1 + 1 + 1, 1, none⟩ (.int .i64 (a1 : Int))).setCell ⟨w.heap.size + 1 + 1 + 1, 2, none⟩ (.bool g1)) = W := ⟨_, rfl⟩
  have GG : Blk W6 (w.heap.size + 1 + 1 + 1) 117 #[.slice A n c, .int .i64 (a1 : Int), .bool g1] ∧ Blk W6 (w.heap.size + 1 + 1) 40 #[.int .u8 (k : Int), .int .u32 (id : Int), .int .u16 (code : Int), .bool last, .int .u64 ((v : Nat) : Int), .int .u64 (fl : Int), .int .u64 (un : Int), .int .u64 (le : Int), .int .u64 (st : Int), .int .u64 (ti : Int), .slice Q n1 c1, .slice G m d] ∧ Below w.heap.size w W6 := by
    rw [← hW]
    exact FF.out
  rw [hW]
  clear hW FF
  have f0 := GG.1.cell 0
  have f1 := GG.1.cell 1
  have f2 := GG.1.cell 2
  have h0 := GG.2.1.cell 0
  have h1 := GG.2.1.cell 1
  have h2 := GG.2.1.cell 2
  have h3 := GG.2.1.cell 3
  have h4 := GG.2.1.cell 4
  have h5 := GG.2.1.cell 5
  have h6 := GG.2.1.cell 6
  have h7 := GG.2.1.cell 7
  have h8 := GG.2.1.cell 8
  have h9 := GG.2.1.cell 9
  have h10 := GG.2.1.cell 10
  have h11 := GG.2.1.cell 11
  refine bodyPost_ret (v := .tuple #[.agg #[.int .u8 (k : Int), .int .u32 (id : Int), .int .u16 (code : Int), .bool last, .int .u64 ((v : Nat) : Int), .int .u64 (fl : Int), .int .u64 (un : Int), .int .u64 (le : Int), .int .u64 (st : Int), .int .u64 (ti : Int), .slice Q n1 c1, .slice G m d], .agg #[.slice A n c, .int .i64 (a1 : Int), .bool g1], .bool false]) ?_ rfl ⟨a1, g1, ha1, N1.out, rfl, GG.2.2.drew⟩
  simp [results, Tryz.results65, go_sem, f0, f1, f2, h0, h1, h2, h3, h4, h5, h6, h7, h8, h9, h10, h11]
set_option maxRecDepth 100000 in
set_option maxHeartbeats 2000000 in
theorem refTakeFloor_any (x : Rp.V) (n c a B v : Nat) (A : Option Addr) (b : List Nat) (f : Bool) (w : World) (hb : Bytes w B A n b) (hB : B ≤ w.heap.size) (hn : n ≤ 1000000) (ha : a ≤ n) (hv : Rp.vl (b.drop a, f) 8 = v) :
    Calls Tryz.prog 65 #[x.val, .int .u8 102, .agg #[.slice A n c, .int .i64 (a : Int), .bool f]] w fun e w' => ∃ a' g, a' ≤ n ∧ Rp.nx (b.drop a, f) 8 = (b.drop a', g) ∧ e = .returned (.tuple #[({ x with fl := v } : Rp.V).val, .agg #[.slice A n c, .int .i64 (a' : Int), .bool g], .bool false]) ∧ Below w.heap.size w w' := by
  obtain ⟨k, id, code, last, ep, fl, un, le, st, ti, Q, n1, c1, G, m, d⟩ := x
  have HBY : Hid (∀ W, Below w.heap.size w W → Bytes W B A n b) := Lib.hid fun W hW => hb.below hW hB
  have HBS : Hid (∀ W, Below w.heap.size w W → B ≤ W.heap.size) := Lib.hid fun W hW => Nat.le_trans hB hW.size
  have S0 := Lib.hid (((((Held.start w).new #[.int .u8 (k : Int), .int .u32 (id : Int), .int .u16 (code : Int), .bool last, .int .u64 (ep : Int), .int .u64 (fl : Int), .int .u64 (un : Int), .int .u64 (le : Int), .int .u64 (st : Int), .int .u64 (ti : Int), .slice Q n1 c1, .slice G m d] 40).new #[.slice A n c, .int .i64 (a : Int), .bool f] 117).new #[.int .u8 0, .int .u32 0, .int .u16 0, .bool false, .int .u64 0, .int .u64 0, .int .u64 0, .int .u64 0, .int .u64 0, .int .u64 0, .slice none 0 0, .slice none 0 0] 40).new #[.slice none 0 0, .int .i64 0, .bool false] 117)
  simp only [World.size_alloc] at S0
  have HV := Lib.hid hv
  clear hb hB hv
  unfold Rp.V.val Rp.V.cells
  dsimp only
  go_enter Tryz.func65, Tryz.ntmps65
  go_wp2_with fail
  obtain ⟨W0, hW0⟩ : ∃ W, (((w.alloc (.cells #[.int .u8 (k : Int), .int .u32 (id : Int), .int .u16 (code : Int), .bool last, .int .u64 (ep : Int), .int .u64 (fl : Int), .int .u64 (un : Int), .int .u64 (le : Int), .int .u64 (st : Int), .int .u64 (ti : Int), .slice Q n1 c1, .slice G m d] 40)).alloc (.cells #[.slice A n c, .int .i64 (a : Int), .bool f] 117)).alloc (.cells #[.int .u8 0, .int .u32 0, .int .u16 0, .bool false, .int .u64 0, .int .u64 0, .int .u64 0, .int .u64 0, .int .u64 0, .int .u64 0, .slice none 0 0, .slice none 0 0] 40)).alloc (.cells #[.slice none 0 0, .int .i64 0, .bool false] 117) = W := ⟨_, rfl⟩
  rw [hW0] at S0 ⊢
  clear hW0
  have S0 := Lib.hid (S0.out.sub8 (l' := [(w.heap.size + 1, 117, (#[.slice A n c, .int .i64 (a : Int), .bool f] : Array Value)), (w.heap.size, 40, (#[.int .u8 (k : Int), .int .u32 (id : Int), .int .u16 (code : Int), .bool last, .int .u64 (ep : Int), .int .u64 (fl : Int), .int .u64 (un : Int), .int .u64 (le : Int), .int .u64 (st : Int), .int .u64 (ti : Int), .slice Q n1 c1, .slice G m d] : Array Value)), (w.heap.size + 1 + 1, 40, (#[.int .u8 0, .int .u32 0, .int .u16 0, .bool false, .int .u64 0, .int .u64 0, .int .u64 0, .int .u64 0, .int .u64 0, .int .u64 0, .slice none 0 0, .slice none 0 0] : Array Value)), (w.heap.size + 1 + 1 + 1, 117, (#[.slice none 0 0, .int .i64 0, .bool false] : Array Value))]) (by intro x hx; simp only [List.mem_cons, List.not_mem_nil, or_false] at hx ⊢; rcases hx with h | h | h | h <;> simp [h]))
  refine (rt_take (c := c) 8 (HBY.out W0 S0.out.1) (HBS.out W0 S0.out.1) hn ha (by omega)).mono ?_
  rw [HV.out]
  rintro e w1 ⟨a1, g1, ha1, hs1, rfl, b1⟩
  have N1 := Lib.hid hs1
  have S1 := Lib.hid (S0.out.step b1)
  clear b1 hs1
  have kk := S1.out.at_ (List.mem_cons_self ..)
  have p0 := kk.cell 0
  have pf0 := kk.frozen 0
  have p1 := kk.cell 1
  have pf1 := kk.frozen 1
  have p2 := kk.cell 2
  have pf2 := kk.frozen 2
  clear kk
  have kk := S1.out.at_ (List.mem_cons_of_mem _ (List.mem_cons_self ..))
  have q0 := kk.cell 0
  have qf0 := kk.frozen 0
  have q1 := kk.cell 1
  have qf1 := kk.frozen 1
  have q2 := kk.cell 2
  have qf2 := kk.frozen 2
  have q3 := kk.cell 3
  have qf3 := kk.frozen 3
  have q4 := kk.cell 4
  have qf4 := kk.frozen 4
  have q5 := kk.cell 5
  have qf5 := kk.frozen 5
  have q6 := kk.cell 6
  have qf6 := kk.frozen 6
  have q7 := kk.cell 7
  have qf7 := kk.frozen 7
  have q8 := kk.cell 8
  have qf8 := kk.frozen 8
  have q9 := kk.cell 9
  have qf9 := kk.frozen 9
  have q10 := kk.cell 10
  have qf10 := kk.frozen 10
  have q11 := kk.cell 11
  have qf11 := kk.frozen 11
  clear kk
  go_wp2_with fail
  clear p0 pf0 p1 pf1 p2 pf2 q0 qf0 q1 qf1 q2 qf2 q3 qf3 q4 qf4 q5 qf5 q6 qf6 q7 qf7 q8 qf8 q9 qf9 q10 qf10 q11 qf11
  have s1 := ((S1.out.three8 (by omega) (by intro x hx; simp only [List.mem_cons, List.not_mem_nil, or_false] at hx; rcases hx with h | h | h <;> rw [h] <;> (dsimp only; omega)) (.slice A n c) (.int .i64 (a1 : Int)) (.bool g1)).sub8 (l' := [(w.heap.size, 40, (#[.int .u8 (k : Int), .int .u32 (id : Int), .int .u16 (code : Int), .bool last, .int .u64 (ep : Int), .int .u64 (fl : Int), .int .u64 (un : Int), .int .u64 (le : Int), .int .u64 (st : Int), .int .u64 (ti : Int), .slice Q n1 c1, .slice G m d] : Array Value)), (w.heap.size + 1, 117, (#[.slice A n c, .int .i64 (a1 : Int), .bool g1] : Array Value)), (w.heap.size + 1 + 1, 40, (#[.int .u8 0, .int .u32 0, .int .u16 0, .bool false, .int .u64 0, .int .u64 0, .int .u64 0, .int .u64 0, .int .u64 0, .int .u64 0, .slice none 0 0, .slice none 0 0] : Array Value)), (w.heap.size + 1 + 1 + 1, 117, (#[.slice none 0 0, .int .i64 0, .bool false] : Array Value))]) (by intro x hx; simp only [List.mem_cons, List.not_mem_nil, or_false] at hx ⊢; rcases hx with h | h | h | h <;> simp [h])).put8 (Nat.le_refl _) (by intro x hx; simp only [List.mem_cons, List.not_mem_nil, or_false] at hx; rcases hx with h | h | h <;> rw [h] <;> (dsimp only; omega)) 5 (.int .u64 ((v : Nat) : Int))
  obtain ⟨W1, hW⟩ : ∃ W, (((w1.setCell ⟨w.heap.size + 1, 0, none⟩ (.slice A n c)).setCell ⟨w.heap.size + 1, 1, none⟩ (.int .i64 (a1 : Int))).setCell ⟨w.heap.size + 1, 2, none⟩ (.bool g1)).setCell ⟨w.heap.size, 5, none⟩ (.int .u64 ((v : Nat) : Int)) = W := ⟨_, rfl⟩
  rw [hW] at s1 ⊢
  have Sx := Lib.hid s1
  clear hW s1
  have Sx : Hid (Held w W1 [(w.heap.size, 40, (#[.int .u8 (k : Int), .int .u32 (id : Int), .int .u16 (code : Int), .bool last, .int .u64 (ep : Int), .int .u64 ((v : Nat) : Int), .int .u64 (un : Int), .int .u64 (le : Int), .int .u64 (st : Int), .int .u64 (ti : Int), .slice Q n1 c1, .slice G m d] : Array Value)), (w.heap.size + 1, 117, (#[.slice A n c, .int .i64 (a1 : Int), .bool g1] : Array Value)), (w.heap.size + 1 + 1, 40, (#[.int .u8 0, .int .u32 0, .int .u16 0, .bool false, .int .u64 0, .int .u64 0, .int .u64 0, .int .u64 0, .int .u64 0, .int .u64 0, .slice none 0 0, .slice none 0 0] : Array Value)), (w.heap.size + 1 + 1 + 1, 117, (#[.slice none 0 0, .int .i64 0, .bool false] : Array Value))]) := Lib.hid Sx.out
  have kk := Sx.out.at_ (List.mem_cons_self ..)
  have q0 := kk.cell 0
  have q1 := kk.cell 1
  have q2 := kk.cell 2
  have q3 := kk.cell 3
  have q4 := kk.cell 4
  have q5 := kk.cell 5
  have q6 := kk.cell 6
  have q7 := kk.cell 7
  have q8 := kk.cell 8
  have q9 := kk.cell 9
  have q10 := kk.cell 10
  have q11 := kk.cell 11
  clear kk
  have kk := Sx.out.at_ (List.mem_cons_of_mem _ (List.mem_cons_self ..))
  have p0 := kk.cell 0
  have p1 := kk.cell 1
  have p2 := kk.cell 2
  clear kk
  have kk := Sx.out.at_ (List.mem_cons_of_mem _ (List.mem_cons_of_mem _ (List.mem_cons_self ..)))
  have r0 := kk.cell 0
  have rf0 := kk.frozen 0
  have r1 := kk.cell 1
  have rf1 := kk.frozen 1
  have r2 := kk.cell 2
  have rf2 := kk.frozen 2
  have r3 := kk.cell 3
  have rf3 := kk.frozen 3
  have r4 := kk.cell 4
  have rf4 := kk.frozen 4
  have r5 := kk.cell 5
  have rf5 := kk.frozen 5
  have r6 := kk.cell 6
  have rf6 := kk.frozen 6
  have r7 := kk.cell 7
  have rf7 := kk.frozen 7
  have r8 := kk.cell 8
  have rf8 := kk.frozen 8
  have r9 := kk.cell 9
  have rf9 := kk.frozen 9
  have r10 := kk.cell 10
  have rf10 := kk.frozen 10
  have r11 := kk.cell 11
  have rf11 := kk.frozen 11
  clear kk
  have kk := Sx.out.at_ (List.mem_cons_of_mem _ (List.mem_cons_of_mem _ (List.mem_cons_of_mem _ (List.mem_cons_self ..))))
  have s0 := kk.cell 0
  have sf0 := kk.frozen 0
  have s1 := kk.cell 1
  have sf1 := kk.frozen 1
  have s2 := kk.cell 2
  have sf2 := kk.frozen 2
  clear kk
  go_region
  go_wp2_with fail
  clear q0 q1 q2 q3 q4 q5 q6 q7 q8 q9 q10 q11 p0 p1 p2 r0 rf0 r1 rf1 r2 rf2 r3 rf3 r4 rf4 r5 rf5 r6 rf6 r7 rf7 r8 rf8 r9 rf9 r10 rf10 r11 rf11 s0 sf0 s1 sf1 s2 sf2
  have T0 := Sx.out.sub8 (l' := [(w.heap.size + 1 + 1, 40, (#[.int .u8 0, .int .u32 0, .int .u16 0, .bool false, .int .u64 0, .int .u64 0, .int .u64 0, .int .u64 0, .int .u64 0, .int .u64 0, .slice none 0 0, .slice none 0 0] : Array Value)), (w.heap.size + 1 + 1 + 1, 117, (#[.slice none 0 0, .int .i64 0, .bool false] : Array Value)), (w.heap.size, 40, (#[.int .u8 (k : Int), .int .u32 (id : Int), .int .u16 (code : Int), .bool last, .int .u64 (ep : Int), .int .u64 ((v : Nat) : Int), .int .u64 (un : Int), .int .u64 (le : Int), .int .u64 (st : Int), .int .u64 (ti : Int), .slice Q n1 c1, .slice G m d] : Array Value)), (w.heap.size + 1, 117, (#[.slice A n c, .int .i64 (a1 : Int), .bool g1] : Array Value))]) (by intro x hx; simp only [List.mem_cons, List.not_mem_nil, or_false] at hx ⊢; rcases hx with h | h | h | h <;> simp [h])
  have T1 := T0.twelve8 (by omega) (by intro x hx; simp only [List.mem_cons, List.not_mem_nil, or_false] at hx; rcases hx with h | h | h <;> rw [h] <;> (dsimp only; omega)) (.int .u8 (k : Int)) (.int .u32 (id : Int)) (.int .u16 (code : Int)) (.bool last) (.int .u64 (ep : Int)) (.int .u64 ((v : Nat) : Int)) (.int .u64 (un : Int)) (.int .u64 (le : Int)) (.int .u64 (st : Int)) (.int .u64 (ti : Int)) (.slice Q n1 c1) (.slice G m d)
  have T2 := T1.sub8 (l' := [(w.heap.size + 1 + 1 + 1, 117, (#[.slice none 0 0, .int .i64 0, .bool false] : Array Value)), (w.heap.size + 1 + 1, 40, (#[.int .u8 (k : Int), .int .u32 (id : Int), .int .u16 (code : Int), .bool last, .int .u64 (ep : Int), .int .u64 ((v : Nat) : Int), .int .u64 (un : Int), .int .u64 (le : Int), .int .u64 (st : Int), .int .u64 (ti : Int), .slice Q n1 c1, .slice G m d] : Array Value)), (w.heap.size, 40, (#[.int .u8 (k : Int), .int .u32 (id : Int), .int .u16 (code : Int), .bool last, .int .u64 (ep : Int), .int .u64 ((v : Nat) : Int), .int .u64 (un : Int), .int .u64 (le : Int), .int .u64 (st : Int), .int .u64 (ti : Int), .slice Q n1 c1, .slice G m d] : Array Value)), (w.heap.size + 1, 117, (#[.slice A n c, .int .i64 (a1 : Int), .bool g1] : Array Value))]) (by intro x hx; simp only [List.mem_cons, List.not_mem_nil, or_false] at hx ⊢; rcases hx with h | h | h | h <;> simp [h])
  have T3 := T2.three8 (by omega) (by intro x hx; simp only [List.mem_cons, List.not_mem_nil, or_false] at hx; rcases hx with h | h | h <;> rw [h] <;> (dsimp only; omega)) (.slice A n c) (.int .i64 (a1 : Int)) (.bool g1)
  have FF := Lib.hid (And.intro (T3.at_ (List.mem_cons_self ..)) (And.intro (T3.at_ (List.mem_cons_of_mem _ (List.mem_cons_self ..))) T3.1))
  clear T0 T1 T2 T3
  obtain ⟨W6, hW⟩ : ∃ W, (((((((((((((((W1.setCell ⟨w.heap.size + 1 + 1, 0, none⟩ (.int .u8 (k : Int))).setCell ⟨w.heap.size + 1 + 1, 1, none⟩ (.int .u32 (id : Int))).setCell ⟨w.heap.size + 1 + 1, 2, none⟩ (.int .u16 (code : Int))).setCell ⟨w.heap.size + 1 + 1, 3, none⟩ (.bool last)).setCell ⟨w.heap.size + 1 + 1, 4, none⟩ (.int .u64 (ep : Int))).setCell ⟨w.heap.size + 1 + 1, 5, none⟩ (.int .u64 ((v : Nat) : Int))).setCell ⟨w.heap.size + 1 + 1, 6, none⟩ (.int .u64 (un : Int))).setCell ⟨w.heap.size + 1 + 1, 7, none⟩ (.int .u64 (le : Int))).setCell ⟨w.heap.size + 1 + 1, 8, none⟩ (.int .u64 (st : Int))).setCell ⟨w.heap.size + 1 + 1, 9, none⟩ (.int .u64 (ti : Int))).setCell ⟨w.heap.size + 1 + 1, 10, none⟩ (.slice Q n1 c1)).setCell ⟨w.heap.size + 1 + 1, 11, none⟩ (.slice G m d)).setCell ⟨w.heap.size + 1 + 1 + 1, 0, none⟩ (.slice A n c)).setCell ⟨w.heap.size + 1 + 1 + 1, 1, none⟩ (.int .i64 (a1 : Int))).setCell ⟨w.heap.size + 1 + 1 + 1, 2, none⟩ (.bool g1)) = W := ⟨_, rfl⟩
  have GG : Blk W6 (w.heap.size + 1 + 1 + 1) 117 #[.slice A n c, .int .i64 (a1 : Int), .bool g1] ∧ Blk W6 (w.heap.size + 1 + 1) 40 #[.int .u8 (k : Int), .int .u32 (id : Int), .int .u16 (code : Int), .bool last, .int .u64 (ep : Int), .int .u64 ((v : Nat) : Int), .int .u64 (un : Int), .int .u64 (le : Int), .int .u64 (st : Int), .int .u64 (ti : Int), .slice Q n1 c1, .slice G m d] ∧ Below w.heap.size w W6 := by
    rw [← hW]
    exact FF.out
  rw [hW]
  clear hW FF
  have f0 := GG.1.cell 0
  have f1 := GG.1.cell 1
  have f2 := GG.1.cell 2
  have h0 := GG.2.1.cell 0
  have h1 := GG.2.1.cell 1
  have h2 := GG.2.1.cell 2
  have h3 := GG.2.1.cell 3
  have h4 := GG.2.1.cell 4
  have h5 := GG.2.1.cell 5
  have h6 := GG.2.1.cell 6
  have h7 := GG.2.1.cell 7
  have h8 := GG.2.1.cell 8
  have h9 := GG.2.1.cell 9
  have h10 := GG.2.1.cell 10
  have h11 := GG.2.1.cell 11
  refine bodyPost_ret (v := .tuple #[.agg #[.int .u8 (k : Int), .int .u32 (id : Int), .int .u16 (code : Int), .bool last, .int .u64 (ep : Int), .int .u64 ((v : Nat) : Int), .int .u64 (un : Int), .int .u64 (le : Int), .int .u64 (st : Int), .int .u64 (ti : Int), .slice Q n1 c1, .slice G m d], .agg #[.slice A n c, .int .i64 (a1 : Int), .bool g1], .bool false]) ?_ rfl ⟨a1, g1, ha1, N1.out, rfl, GG.2.2.drew⟩
  simp [results, Tryz.results65, go_sem, f0, f1, f2, h0, h1, h2, h3, h4, h5, h6, h7, h8, h9, h10, h11]
set_option maxRecDepth 100000 in
set_option maxHeartbeats 2000000 in
theorem refTakeUntil_any (x : Rp.V) (n c a B v : Nat) (A : Option Addr) (b : List Nat) (f : Bool) (w : World) (hb : Bytes w B A n b) (hB : B ≤ w.heap.size) (hn : n ≤ 1000000) (ha : a ≤ n) (hv : Rp.vl (b.drop a, f) 8 = v) :
    Calls Tryz.prog 65 #[x.val, .int .u8 117, .agg #[.slice A n c, .int .i64 (a : Int), .bool f]] w fun e w' => ∃ a' g, a' ≤ n ∧ Rp.nx (b.drop a, f) 8 = (b.drop a', g) ∧ e = .returned (.tuple #[({ x with un := v } : Rp.V).val, .agg #[.slice A n c, .int .i64 (a' : Int), .bool g], .bool false]) ∧ Below w.heap.size w w' := by
  obtain ⟨k, id, code, last, ep, fl, un, le, st, ti, Q, n1, c1, G, m, d⟩ := x
  have HBY : Hid (∀ W, Below w.heap.size w W → Bytes W B A n b) := Lib.hid fun W hW => hb.below hW hB
  have HBS : Hid (∀ W, Below w.heap.size w W → B ≤ W.heap.size) := Lib.hid fun W hW => Nat.le_trans hB hW.size
  have S0 := Lib.hid (((((Held.start w).new #[.int .u8 (k : Int), .int .u32 (id : Int), .int .u16 (code : Int), .bool last, .int .u64 (ep : Int), .int .u64 (fl : Int), .int .u64 (un : Int), .int .u64 (le : Int), .int .u64 (st : Int), .int .u64 (ti : Int), .slice Q n1 c1, .slice G m d] 40).new #[.slice A n c, .int .i64 (a : Int), .bool f] 117).new #[.int .u8 0, .int .u32 0, .int .u16 0, .bool false, .int .u64 0, .int .u64 0, .int .u64 0, .int .u64 0, .int .u64 0, .int .u64 0, .slice none 0 0, .slice none 0 0] 40).new #[.slice none 0 0, .int .i64 0, .bool false] 117)
  simp only [World.size_alloc] at S0
  have HV := Lib.hid hv
  clear hb hB hv
  unfold Rp.V.val Rp.V.cells
  dsimp only
  go_enter Tryz.func65, Tryz.ntmps65
  go_wp2_with fail
  obtain ⟨W0, hW0⟩ : ∃ W, (((w.alloc (.cells #[.int .u8 (k : Int), .int .u32 (id : Int), .int .u16 (code : Int), .bool last, .int .u64 (ep : Int), .int .u64 (fl : Int), .int .u64 (un : Int), .int .u64 (le : Int), .int .u64 (st : Int), .int .u64 (ti : Int), .slice Q n1 c1, .slice G m d] 40)).alloc (.cells #[.slice A n c, .int .i64 (a : Int), .bool f] 117)).alloc (.cells #[.int .u8 0, .int .u32 0, .int .u16 0, .bool false, .int .u64 0, .int .u64 0, .int .u64 0, .int .u64 0, .int .u64 0, .int .u64 0, .slice none 0 0, .slice none 0 0] 40)).alloc (.cells #[.slice none 0 0, .int .i64 0, .bool false] 117) = W := ⟨_, rfl⟩
  rw [hW0] at S0 ⊢
  clear hW0
  have S0 := Lib.hid (S0.out.sub8 (l' := [(w.heap.size + 1, 117, (#[.slice A n c, .int .i64 (a : Int), .bool f] : Array Value)), (w.heap.size, 40, (#[.int .u8 (k : Int), .int .u32 (id : Int), .int .u16 (code : Int), .bool last, .int .u64 (ep : Int), .int .u64 (fl : Int), .int .u64 (un : Int), .int .u64 (le : Int), .int .u64 (st : Int), .int .u64 (ti : Int), .slice Q n1 c1, .slice G m d] : Array Value)), (w.heap.size + 1 + 1, 40, (#[.int .u8 0, .int .u32 0, .int .u16 0, .bool false, .int .u64 0, .int .u64 0, .int .u64 0, .int .u64 0, .int .u64 0, .int .u64 0, .slice none 0 0, .slice none 0 0] : Array Value)), (w.heap.size + 1 + 1 + 1, 117, (#[.slice none 0 0, .int .i64 0, .bool false] : Array Value))]) (by intro x hx; simp only [List.mem_cons, List.not_mem_nil, or_false] at hx ⊢; rcases hx with h | h | h | h <;> simp [h]))
  refine (rt_take (c := c) 8 (HBY.out W0 S0.out.1) (HBS.out W0 S0.out.1) hn ha (by omega)).mono ?_
  rw [HV.out]
  rintro e w1 ⟨a1, g1, ha1, hs1, rfl, b1⟩
  have N1 := Lib.hid hs1
  have S1 := Lib.hid (S0.out.step b1)
  clear b1 hs1
  have kk := S1.out.at_ (List.mem_cons_self ..)
  have p0 := kk.cell 0
  have pf0 := kk.frozen 0
  have p1 := kk.cell 1
  have pf1 := kk.frozen 1
  have p2 := kk.cell 2
  have pf2 := kk.frozen 2
  clear kk
  have kk := S1.out.at_ (List.mem_cons_of_mem _ (List.mem_cons_self ..))
  have q0 := kk.cell 0
  have qf0 := kk.frozen 0
  have q1 := kk.cell 1
  have qf1 := kk.frozen 1
  have q2 := kk.cell 2
  have qf2 := kk.frozen 2
  have q3 := kk.cell 3
  have qf3 := kk.frozen 3
  have q4 := kk.cell 4
  have qf4 := kk.frozen 4
  have q5 := kk.cell 5
  have qf5 := kk.frozen 5
  have q6 := kk.cell 6
  have qf6 := kk.frozen 6
  have q7 := kk.cell 7
  have qf7 := kk.frozen 7
  have q8 := kk.cell 8
  have qf8 := kk.frozen 8
  have q9 := kk.cell 9
  have qf9 := kk.frozen 9
  have q10 := kk.cell 10
  have qf10 := kk.frozen 10
  have q11 := kk.cell 11
  have qf11 := kk.frozen 11
  clear kk
  go_wp2_with fail
  clear p0 pf0 p1 pf1 p2 pf2 q0 qf0 q1 qf1 q2 qf2 q3 qf3 q4 qf4 q5 qf5 q6 qf6 q7 qf7 q8 qf8 q9 qf9 q10 qf10 q11 qf11
  have s1 := ((S1.out.three8 (by omega) (by intro x hx; simp only [List.mem_cons, List.not_mem_nil, or_false] at hx; rcases hx with h | h | h <;> rw [h] <;> (dsimp only; omega)) (.slice A n c) (.int .i64 (a1 : Int)) (.bool g1)).sub8 (l' := [(w.heap.size, 40, (#[.int .u8 (k : Int), .int .u32 (id : Int), .int .u16 (code : Int), .bool last, .int .u64 (ep : Int), .int .u64 (fl : Int), .int .u64 (un : Int), .int .u64 (le : Int), .int .u64 (st : Int), .int .u64 (ti : Int), .slice Q n1 c1, .slice G m d] : Array Value)), (w.heap.size + 1, 117, (#[.slice A n c, .int .i64 (a1 : Int), .bool g1] : Array Value)), (w.heap.size + 1 + 1, 40, (#[.int .u8 0, .int .u32 0, .int .u16 0, .bool false, .int .u64 0, .int .u64 0, .int .u64 0, .int .u64 0, .int .u64 0, .int .u64 0, .slice none 0 0, .slice none 0 0] : Array Value)), (w.heap.size + 1 + 1 + 1, 117, (#[.slice none 0 0, .int .i64 0, .bool false] : Array Value))]) (by intro x hx; simp only [List.mem_cons, List.not_mem_nil, or_false] at hx ⊢; rcases hx with h | h | h | h <;> simp [h])).put8 (Nat.le_refl _) (by intro x hx; simp only [List.mem_cons, List.not_mem_nil, or_false] at hx; rcases hx with h | h | h <;> rw [h] <;> (dsimp only; omega)) 6 (.int .u64 ((v : Nat) : Int))
  obtain ⟨W1, hW⟩ : ∃ W, (((w1.setCell ⟨w.heap.size + 1, 0, none⟩ (.slice A n c)).setCell ⟨w.heap.size + 1, 1, none⟩ (.int .i64 (a1 : Int))).setCell ⟨w.heap.size + 1, 2, none⟩ (.bool g1)).setCell ⟨w.heap.size, 6, none⟩ (.int .u64 ((v : Nat) : Int)) = W := ⟨_, rfl⟩
  rw [hW] at s1 ⊢
  have Sx := Lib.hid s1
  clear hW s1
  have Sx : Hid (Held w W1 [(w.heap.size, 40, (#[.int .u8 (k : Int), .int .u32 (id : Int), .int .u16 (code : Int), .bool last, .int .u64 (ep : Int), .int .u64 (fl : Int), .int .u64 ((v : Nat) : Int), .int .u64 (le : Int), .int .u64 (st : Int), .int .u64 (ti : Int), .slice Q n1 c1, .slice G m d] : Array Value)), (w.heap.size + 1, 117, (#[.slice A n c, .int .i64 (a1 : Int), .bool g1] : Array Value)), (w.heap.size + 1 + 1, 40, (#[.int .u8 0, .int .u32 0, .int .u16 0, .bool false, .int .u64 0, .int .u64 0, .int .u64 0, .int .u64 0, .int .u64 0, .int .u64 0, .slice none 0 0, .slice none 0 0] : Array Value)), (w.heap.size + 1 + 1 + 1, 117, (#[.slice none 0 0, .int .i64 0, .bool false] : Array Value))]) := Lib.hid Sx.out
  have kk := Sx.out.at_ (List.mem_cons_self ..)
  have q0 := kk.cell 0
  have q1 := kk.cell 1
  have q2 := kk.cell 2
  have q3 := kk.cell 3
  have q4 := kk.cell 4
  have q5 := kk.cell 5
  have q6 := kk.cell 6
  have q7 := kk.cell 7
  have q8 := kk.cell 8
  have q9 := kk.cell 9
  have q10 := kk.cell 10
  have q11 := kk.cell 11
  clear kk
  have kk := Sx.out.at_ (List.mem_cons_of_mem _ (List.mem_cons_self ..))
  have p0 := kk.cell 0
  have p1 := kk.cell 1
  have p2 := kk.cell 2
  clear kk
  have kk := Sx.out.at_ (List.mem_cons_of_mem _ (List.mem_cons_of_mem _ (List.mem_cons_self ..)))
  have r0 := kk.cell 0
  have rf0 := kk.frozen 0
  have r1 := kk.cell 1
  have rf1 := kk.frozen 1
  have r2 := kk.cell 2
  have rf2 := kk.frozen 2
  have r3 := kk.cell 3
  have rf3 := kk.frozen 3
  have r4 := kk.cell 4
  have rf4 := kk.frozen 4
  have r5 := kk.cell 5
  have rf5 := kk.frozen 5
  have r6 := kk.cell 6
  have rf6 := kk.frozen 6
  have r7 := kk.cell 7
  have rf7 := kk.frozen 7
  have r8 := kk.cell 8
  have rf8 := kk.frozen 8
  have r9 := kk.cell 9
  have rf9 := kk.frozen 9
  have r10 := kk.cell 10
  have rf10 := kk.frozen 10
  have r11 := kk.cell 11
  have rf11 := kk.frozen 11
  clear kk
  have kk := Sx.out.at_ (List.mem_cons_of_mem _ (List.mem_cons_of_mem _ (List.mem_cons_of_mem _ (List.mem_cons_self ..))))
  have s0 := kk.cell 0
  have sf0 := kk.frozen 0
  have s1 := kk.cell 1
  have sf1 := kk.frozen 1
  have s2 := kk.cell 2
  have sf2 := kk.frozen 2
  clear kk
  go_region
  go_wp2_with fail
  clear q0 q1 q2 q3 q4 q5 q6 q7 q8 q9 q10 q11 p0 p1 p2 r0 rf0 r1 rf1 r2 rf2 r3 rf3 r4 rf4 r5 rf5 r6 rf6 r7 rf7 r8 rf8 r9 rf9 r10 rf10 r11 rf11 s0 sf0 s1 sf1 s2 sf2
  have T0 := Sx.out.sub8 (l' := [(w.heap.size + 1 + 1, 40, (#[.int .u8 0, .int .u32 0, .int .u16 0, .bool false, .int .u64 0, .int .u64 0, .int .u64 0, .int .u64 0, .int .u64 0, .int .u64 0, .slice none 0 0, .slice none 0 0] : Array Value)), (w.heap.size + 1 + 1 + 1, 117, (#[.slice none 0 0, .int .i64 0, .bool false] : Array Value)), (w.heap.size, 40, (#[.int .u8 (k : Int), .int .u32 (id : Int), .int .u16 (code : Int), .bool last, .int .u64 (ep : Int), .int .u64 (fl : Int), .int .u64 ((v : Nat) : Int), .int .u64 (le : Int), .int .u64 (st : Int), .int .u64 (ti : Int), .slice Q n1 c1, .slice G m d] : Array Value)), (w.heap.size + 1, 117, (#[.slice A n c, .int .i64 (a1 : Int), .bool g1] : Array Value))]) (by intro x hx; simp only [List.mem_cons, List.not_mem_nil, or_false] at hx ⊢; rcases hx with h | h | h | h <;> simp [h])
  have T1 := T0.twelve8 (by omega) (by intro x hx; simp only [List.mem_cons, List.not_mem_nil, or_false] at hx; rcases hx with h | h | h <;> rw [h] <;> (dsimp only; omega)) (.int .u8 (k : Int)) (.int .u32 (id : Int)) (.int .u16 (code : Int)) (.bool last) (.int .u64 (ep : Int)) (.int .u64 (fl : Int)) (.int .u64 ((v : Nat) : Int)) (.int .u64 (le : Int)) (.int .u64 (st : Int)) (.int .u64 (ti : Int)) (.slice Q n1 c1) (.slice G m d)
  have T2 := T1.sub8 (l' := [(w.heap.size + 1 + 1 + 1, 117, (#[.slice none 0 0, .int .i64 0, .bool false] : Array Value)), (w.heap.size + 1 + 1, 40, (#[.int .u8 (k : Int), .int .u32 (id : Int), .int .u16 (code : Int), .bool last, .int .u64 (ep : Int), .int .u64 (fl : Int), .int .u64 ((v : Nat) : Int), .int .u64 (le : Int), .int .u64 (st : Int), .int .u64 (ti : Int), .slice Q n1 c1, .slice G m d] : Array Value)), (w.heap.size, 40, (#[.int .u8 (k : Int), .int .u32 (id : Int), .int .u16 (code : Int), .bool last, .int .u64 (ep : Int), .int .u64 (fl : Int), .int .u64 ((v : Nat) : Int), .int .u64 (le : Int), .int .u64 (st : Int), .int .u64 (ti : Int), .slice Q n1 c1, .slice G m d] : Array Value)), (w.heap.size + 1, 117, (#[.slice A n c, .int .i64 (a1 : Int), .bool g1] : Array Value))]) (by intro x hx; simp only [List.mem_cons, List.not_mem_nil, or_false] at hx ⊢; rcases hx with h | h | h | h <;> simp [h])
  have T3 := T2.three8 (by omega) (by intro x hx; simp only [List.mem_cons, List.not_mem_nil, or_false] at hx; rcases hx with h | h | h <;> rw [h] <;> (dsimp only; omega)) (.slice A n c) (.int .i64 (a1 : Int)) (.bool g1)
  have FF := Lib.hid (And.intro (T3.at_ (List.mem_cons_self ..)) (And.intro (T3.at_ (List.mem_cons_of_mem _ (List.mem_cons_self ..))) T3.1))
  clear T0 T1 T2 T3
  obtain ⟨W6, hW⟩ : ∃ W, (((((((((((((((W1.setCell ⟨w.heap.size + 1 + 1, 0, none⟩ (.int .u8 (k : Int))).setCell ⟨w.heap.size + 1 + 1, 1, none⟩ (.int .u32 (id : Int))).setCell ⟨w.heap.size + 1 + 1, 2, none⟩ (.int .u16 (code : Int))).setCell ⟨w.heap.size + 1 + 1, 3, none⟩ (.bool last)).setCell ⟨w.heap.size + 1 + 1, 4, none⟩ (.int .u64 (ep : Int))).setCell ⟨w.heap.size + 1 + 1, 5, none⟩ (.int .u64 (fl : Int))).setCell ⟨w.heap.size + 1 + 1, 6, none⟩ (.int .u64 ((v : Nat) : Int))).setCell ⟨w.heap.size + 1 + 1, 7, none⟩ (.int .u64 (le : Int))).setCell ⟨w.heap.size + 1 + 1, 8, none⟩ (.int .u64 (st : Int))).setCell ⟨w.heap.size + 1 + 1, 9, none⟩ (.int .u64 (ti : Int))).setCell ⟨w.heap.size + 1 + 1, 10, none⟩ (.slice Q n1 c1)).setCell ⟨w.heap.size + 1 + 1, 11, none⟩ (.slice G m d)).setCell ⟨w.heap.size + 1 + 1 + 1, 0, none⟩ (.slice A n c)).setCell ⟨w.heap.size + 1 + 1 + 1, 1, none⟩ (.int .i64 (a1 : Int))).setCell ⟨w.heap.size + 1 + 1 + 1, 2, none⟩ (.bool g1)) = W := ⟨_, rfl⟩
  have GG : Blk W6 (w.heap.size + 1 + 1 + 1) 117 #[.slice A n c, .int .i64 (a1 : Int), .bool g1] ∧ Blk W6 (w.heap.size + 1 + 1) 40 #[.int .u8 (k : Int), .int .u32 (id : Int), .int .u16 (code : Int), .bool last, .int .u64 (ep : Int), .int .u64 (fl : Int), .int .u64 ((v : Nat) : Int), .int .u64 (le : Int), .int .u64 (st : Int), .int .u64 (ti : Int), .slice Q n1 c1, .slice G m d] ∧ Below w.heap.size w W6 := by
    rw [← hW]
    exact FF.out
  rw [hW]
  clear hW FF
  have f0 := GG.1.cell 0
  have f1 := GG.1.cell 1
  have f2 := GG.1.cell 2
  have h0 := GG.2.1.cell 0
  have h1 := GG.2.1.cell 1
  have h2 := GG.2.1.cell 2
  have h3 := GG.2.1.cell 3
  have h4 := GG.2.1.cell 4
  have h5 := GG.2.1.cell 5
  have h6 := GG.2.1.cell 6
  have h7 := GG.2.1.cell 7
  have h8 := GG.2.1.cell 8
  have h9 := GG.2.1.cell 9
  have h10 := GG.2.1.cell 10
  have h11 := GG.2.1.cell 11
  refine bodyPost_ret (v := .tuple #[.agg #[.int .u8 (k : Int), .int .u32 (id : Int), .int .u16 (code : Int), .bool last, .int .u64 (ep : Int), .int .u64 (fl : Int), .int .u64 ((v : Nat) : Int), .int .u64 (le : Int), .int .u64 (st : Int), .int .u64 (ti : Int), .slice Q n1 c1, .slice G m d], .agg #[.slice A n c, .int .i64 (a1 : Int), .bool g1], .bool false]) ?_ rfl ⟨a1, g1, ha1, N1.out, rfl, GG.2.2.drew⟩
  simp [results, Tryz.results65, go_sem, f0, f1, f2, h0, h1, h2, h3, h4, h5, h6, h7, h8, h9, h10, h11]
set_option maxRecDepth 100000 in
set_option maxHeartbeats 2000000 in
theorem refTakeLease_any (x : Rp.V) (n c a B v : Nat) (A : Option Addr) (b : List Nat) (f : Bool) (w : World) (hb : Bytes w B A n b) (hB : B ≤ w.heap.size) (hn : n ≤ 1000000) (ha : a ≤ n) (hv : Rp.vl (b.drop a, f) 8 = v) :
    Calls Tryz.prog 65 #[x.val, .int .u8 76, .agg #[.slice A n c, .int .i64 (a : Int), .bool f]] w fun e w' => ∃ a' g, a' ≤ n ∧ Rp.nx (b.drop a, f) 8 = (b.drop a', g) ∧ e = .returned (.tuple #[({ x with le := v } : Rp.V).val, .agg #[.slice A n c, .int .i64 (a' : Int), .bool g], .bool false]) ∧ Below w.heap.size w w' := by
  obtain ⟨k, id, code, last, ep, fl, un, le, st, ti, Q, n1, c1, G, m, d⟩ := x
  have HBY : Hid (∀ W, Below w.heap.size w W → Bytes W B A n b) := Lib.hid fun W hW => hb.below hW hB
  have HBS : Hid (∀ W, Below w.heap.size w W → B ≤ W.heap.size) := Lib.hid fun W hW => Nat.le_trans hB hW.size
  have S0 := Lib.hid (((((Held.start w).new #[.int .u8 (k : Int), .int .u32 (id : Int), .int .u16 (code : Int), .bool last, .int .u64 (ep : Int), .int .u64 (fl : Int), .int .u64 (un : Int), .int .u64 (le : Int), .int .u64 (st : Int), .int .u64 (ti : Int), .slice Q n1 c1, .slice G m d] 40).new #[.slice A n c, .int .i64 (a : Int), .bool f] 117).new #[.int .u8 0, .int .u32 0, .int .u16 0, .bool false, .int .u64 0, .int .u64 0, .int .u64 0, .int .u64 0, .int .u64 0, .int .u64 0, .slice none 0 0, .slice none 0 0] 40).new #[.slice none 0 0, .int .i64 0, .bool false] 117)
  simp only [World.size_alloc] at S0
  have HV := Lib.hid hv
  clear hb hB hv
  unfold Rp.V.val Rp.V.cells
  dsimp only
  go_enter Tryz.func65, Tryz.ntmps65
  go_wp2_with fail
  obtain ⟨W0, hW0⟩ : ∃ W, (((w.alloc (.cells #[.int .u8 (k : Int), .int .u32 (id : Int), .int .u16 (code : Int), .bool last, .int .u64 (ep : Int), .int .u64 (fl : Int), .int .u64 (un : Int), .int .u64 (le : Int), .int .u64 (st : Int), .int .u64 (ti : Int), .slice Q n1 c1, .slice G m d] 40)).alloc (.cells #[.slice A n c, .int .i64 (a : Int), .bool f] 117)).alloc (.cells #[.int .u8 0, .int .u32 0, .int .u16 0, .bool false, .int .u64 0, .int .u64 0, .int .u64 0, .int .u64 0, .int .u64 0, .int .u64 0, .slice none 0 0, .slice none 0 0] 40)).alloc (.cells #[.slice none 0 0, .int .i64 0, .bool false] 117) = W := ⟨_, rfl⟩
  rw [hW0] at S0 ⊢
  clear hW0
  have S0 := Lib.hid (S0.out.sub8 (l' := [(w.heap.size + 1, 117, (#[.slice A n c, .int .i64 (a : Int), .bool f] : Array Value)), (w.heap.size, 40, (#[.int .u8 (k : Int), .int .u32 (id : Int), .int .u16 (code : Int), .bool last, .int .u64 (ep : Int), .int .u64 (fl : Int), .int .u64 (un : Int), .int .u64 (le : Int), .int .u64 (st : Int), .int .u64 (ti : Int), .slice Q n1 c1, .slice G m d] : Array Value)), (w.heap.size + 1 + 1, 40, (#[.int .u8 0, .int .u32 0, .int .u16 0, .bool false, .int .u64 0, .int .u64 0, .int .u64 0, .int .u64 0, .int .u64 0, .int .u64 0, .slice none 0 0, .slice none 0 0] : Array Value)), (w.heap.size + 1 + 1 + 1, 117, (#[.slice none 0 0, .int .i64 0, .bool false] : Array Value))]) (by intro x hx; simp only [List.mem_cons, List.not_mem_nil, or_false] at hx ⊢; rcases hx with h | h | h | h <;> simp [h]))
  refine (rt_take (c := c) 8 (HBY.out W0 S0.out.1) (HBS.out W0 S0.out.1) hn ha (by omega)).mono ?_
  rw [HV.out]
  rintro e w1 ⟨a1, g1, ha1, hs1, rfl, b1⟩
  have N1 := Lib.hid hs1
  have S1 := Lib.hid (S0.out.step b1)
  clear b1 hs1
  have kk := S1.out.at_ (List.mem_cons_self ..)
  have p0 := kk.cell 0
  have pf0 := kk.frozen 0
  have p1 := kk.cell 1
  have pf1 := kk.frozen 1
  have p2 := kk.cell 2
  have pf2 := kk.frozen 2
  clear kk
  have kk := S1.out.at_ (List.mem_cons_of_mem _ (List.mem_cons_self ..))
  have q0 := kk.cell 0
  have qf0 := kk.frozen 0
  have q1 := kk.cell 1
  have qf1 := kk.frozen 1
  have q2 := kk.cell 2
  have qf2 := kk.frozen 2
  have q3 := kk.cell 3
  have qf3 := kk.frozen 3
  have q4 := kk.cell 4
  have qf4 := kk.frozen 4
  have q5 := kk.cell 5
  have qf5 := kk.frozen 5
  have q6 := kk.cell 6
  have qf6 := kk.frozen 6
  have q7 := kk.cell 7
  have qf7 := kk.frozen 7
  have q8 := kk.cell 8
  have qf8 := kk.frozen 8
  have q9 := kk.cell 9
  have qf9 := kk.frozen 9
  have q10 := kk.cell 10
  have qf10 := kk.frozen 10
  have q11 := kk.cell 11
  have qf11 := kk.frozen 11
  clear kk
  go_wp2_with fail
  clear p0 pf0 p1 pf1 p2 pf2 q0 qf0 q1 qf1 q2 qf2 q3 qf3 q4 qf4 q5 qf5 q6 qf6 q7 qf7 q8 qf8 q9 qf9 q10 qf10 q11 qf11
  have s1 := ((S1.out.three8 (by omega) (by intro x hx; simp only [List.mem_cons, List.not_mem_nil, or_false] at hx; rcases hx with h | h | h <;> rw [h] <;> (dsimp only; omega)) (.slice A n c) (.int .i64 (a1 : Int)) (.bool g1)).sub8 (l' := [(w.heap.size, 40, (#[.int .u8 (k : Int), .int .u32 (id : Int), .int .u16 (code : Int), .bool last, .int .u64 (ep : Int), .int .u64 (fl : Int), .int .u64 (un : Int), .int .u64 (le : Int), .int .u64 (st : Int), .int .u64 (ti : Int), .slice Q n1 c1, .slice G m d] : Array Value)), (w.heap.size + 1, 117, (#[.slice A n c, .int .i64 (a1 : Int), .bool g1] : Array Value)), (w.heap.size + 1 + 1, 40, (#[.int .u8 0, .int .u32 0, .int .u16 0, .bool false, .int .u64 0, .int .u64 0, .int .u64 0, .int .u64 0, .int .u64 0, .int .u64 0, .slice none 0 0, .slice none 0 0] : Array Value)), (w.heap.size + 1 + 1 + 1, 117, (#[.slice none 0 0, .int .i64 0, .bool false] : Array Value))]) (by intro x hx; simp only [List.mem_cons, List.not_mem_nil, or_false] at hx ⊢; rcases hx with h | h | h | h <;> simp [h])).put8 (Nat.le_refl _) (by intro x hx; simp only [List.mem_cons, List.not_mem_nil, or_false] at hx; rcases hx with h | h | h <;> rw [h] <;> (dsimp only; omega)) 7 (.int .u64 ((v : Nat) : Int))
  obtain ⟨W1, hW⟩ : ∃ W, (((w1.setCell ⟨w.heap.size + 1, 0, none⟩ (.slice A n c)).setCell ⟨w.heap.size + 1, 1, none⟩ (.int .i64 (a1 : Int))).setCell ⟨w.heap.size + 1, 2, none⟩ (.bool g1)).setCell ⟨w.heap.size, 7, none⟩ (.int .u64 ((v : Nat) : Int)) = W := ⟨_, rfl⟩
  rw [hW] at s1 ⊢
  have Sx := Lib.hid s1
  clear hW s1
  have Sx : Hid (Held w W1 [(w.heap.size, 40, (#[.int .u8 (k : Int), .int .u32 (id : Int), .int .u16 (code : Int), .bool last, .int .u64 (ep : Int), .int .u64 (fl : Int), .int .u64 (un : Int), .int .u64 ((v : Nat) : Int), .int .u64 (st : Int), .int .u64 (ti : Int), .slice Q n1 c1, .slice G m d] : Array Value)), (w.heap.size + 1, 117, (#[.slice A n c, .int .i64 (a1 : Int), .bool g1] : Array Value)), (w.heap.size + 1 + 1, 40, (#[.int .u8 0, .int .u32 0, .int .u16 0, .bool false, .int .u64 0, .int .u64 0, .int .u64 0, .int .u64 0, .int .u64 0, .int .u64 0, .slice none 0 0, .slice none 0 0] : Array Value)), (w.heap.size + 1 + 1 + 1, 117, (#[.slice none 0 0, .int .i64 0, .bool false] : Array Value))]) := Lib.hid Sx.out
  have kk := Sx.out.at_ (List.mem_cons_self ..)
  have q0 := kk.cell 0
  have q1 := kk.cell 1
  have q2 := kk.cell 2
  have q3 := kk.cell 3
  have q4 := kk.cell 4
  have q5 := kk.cell 5
  have q6 := kk.cell 6
  have q7 := kk.cell 7
  have q8 := kk.cell 8
  have q9 := kk.cell 9
  have q10 := kk.cell 10
  have q11 := kk.cell 11
  clear kk
  have kk := Sx.out.at_ (List.mem_cons_of_mem _ (List.mem_cons_self ..))
  have p0 := kk.cell 0
  have p1 := kk.cell 1
  have p2 := kk.cell 2
  clear kk
  have kk := Sx.out.at_ (List.mem_cons_of_mem _ (List.mem_cons_of_mem _ (List.mem_cons_self ..)))
  have r0 := kk.cell 0
  have rf0 := kk.frozen 0
  have r1 := kk.cell 1
  have rf1 := kk.frozen 1
  have r2 := kk.cell 2
  have rf2 := kk.frozen 2
  have r3 := kk.cell 3
  have rf3 := kk.frozen 3
  have r4 := kk.cell 4
  have rf4 := kk.frozen 4
  have r5 := kk.cell 5
  have rf5 := kk.frozen 5
  have r6 := kk.cell 6
  have rf6 := kk.frozen 6
  have r7 := kk.cell 7
  have rf7 := kk.frozen 7
  have r8 := kk.cell 8
  have rf8 := kk.frozen 8
  have r9 := kk.cell 9
  have rf9 := kk.frozen 9
  have r10 := kk.cell 10
  have rf10 := kk.frozen 10
  have r11 := kk.cell 11
  have rf11 := kk.frozen 11
  clear kk
  have kk := Sx.out.at_ (List.mem_cons_of_mem _ (List.mem_cons_of_mem _ (List.mem_cons_of_mem _ (List.mem_cons_self ..))))
  have s0 := kk.cell 0
  have sf0 := kk.frozen 0
  have s1 := kk.cell 1
  have sf1 := kk.frozen 1
  have s2 := kk.cell 2
  have sf2 := kk.frozen 2
  clear kk
  go_region
  go_wp2_with fail
  clear q0 q1 q2 q3 q4 q5 q6 q7 q8 q9 q10 q11 p0 p1 p2 r0 rf0 r1 rf1 r2 rf2 r3 rf3 r4 rf4 r5 rf5 r6 rf6 r7 rf7 r8 rf8 r9 rf9 r10 rf10 r11 rf11 s0 sf0 s1 sf1 s2 sf2
  have T0 := Sx.out.sub8 (l' := [(w.heap.size + 1 + 1, 40, (#[.int .u8 0, .int .u32 0, .int .u16 0, .bool false, .int .u64 0, .int .u64 0, .int .u64 0, .int .u64 0, .int .u64 0, .int .u64 0, .slice none 0 0, .slice none 0 0] : Array Value)), (w.heap.size + 1 + 1 + 1, 117, (#[.slice none 0 0, .int .i64 0, .bool false] : Array Value)), (w.heap.size, 40, (#[.int .u8 (k : Int), .int .u32 (id : Int), .int .u16 (code : Int), .bool last, .int .u64 (ep : Int), .int .u64 (fl : Int), .int .u64 (un : Int), .int .u64 ((v : Nat) : Int), .int .u64 (st : Int), .int .u64 (ti : Int), .slice Q n1 c1, .slice G m d] : Array Value)), (w.heap.size + 1, 117, (#[.slice A n c, .int .i64 (a1 : Int), .bool g1] : Array Value))]) (by intro x hx; simp only [List.mem_cons, List.not_mem_nil, or_false] at hx ⊢; rcases hx with h | h | h | h <;> simp [h])
  have T1 := T0.twelve8 (by omega) (by intro x hx; simp only [List.mem_cons, List.not_mem_nil, or_false] at hx; rcases hx with h | h | h <;> rw [h] <;> (dsimp only; omega)) (.int .u8 (k : Int)) (.int .u32 (id : Int)) (.int .u16 (code : Int)) (.bool last) (.int .u64 (ep : Int)) (.int .u64 (fl : Int)) (.int .u64 (un : Int)) (.int .u64 ((v : Nat) : Int)) (.int .u64 (st : Int)) (.int .u64 (ti : Int)) (.slice Q n1 c1) (.slice G m d)
  have T2 := T1.sub8 (l' := [(w.heap.size + 1 + 1 + 1, 117, (#[.slice none 0 0, .int .i64 0, .bool false] : Array Value)), (w.heap.size + 1 + 1, 40, (#[.int .u8 (k : Int), .int .u32 (id : Int), .int .u16 (code : Int), .bool last, .int .u64 (ep : Int), .int .u64 (fl : Int), .int .u64 (un : Int), .int .u64 ((v : Nat) : Int), .int .u64 (st : Int), .int .u64 (ti : Int), .slice Q n1 c1, .slice G m d] : Array Value)), (w.heap.size, 40, (#[.int .u8 (k : Int), .int .u32 (id : Int), .int .u16 (code : Int), .bool last, .int .u64 (ep : Int), .int .u64 (fl : Int), .int .u64 (un : Int), .int .u64 ((v : Nat) : Int), .int .u64 (st : Int), .int .u64 (ti : Int), .slice Q n1 c1, .slice G m d] : Array Value)), (w.heap.size + 1, 117, (#[.slice A n c, .int .i64 (a1 : Int), .bool g1] : Array Value))]) (by intro x hx; simp only [List.mem_cons, List.not_mem_nil, or_false] at hx ⊢; rcases hx with h | h | h | h <;> simp [h])
  have T3 := T2.three8 (by omega) (by intro x hx; simp only [List.mem_cons, List.not_mem_nil, or_false] at hx; rcases hx with h | h | h <;> rw [h] <;> (dsimp only; omega)) (.slice A n c) (.int .i64 (a1 : Int)) (.bool g1)
  have FF := Lib.hid (And.intro (T3.at_ (List.mem_cons_self ..)) (And.intro (T3.at_ (List.mem_cons_of_mem _ (List.mem_cons_self ..))) T3.1))
  clear T0 T1 T2 T3
  obtain ⟨W6, hW⟩ : ∃ W, (((((((((((((((W1.setCell ⟨w.heap.size + 1 + 1, 0, none⟩ (.int .u8 (k : Int))).setCell ⟨w.heap.size + 1 + 1, 1, none⟩ (.int .u32 (id : Int))).setCell ⟨w.heap.size + 1 + 1, 2, none⟩ (.int .u16 (code : Int))).setCell ⟨w.heap.size + 1 + 1, 3, none⟩ (.bool last)).setCell ⟨w.heap.size + 1 + 1, 4, none⟩ (.int .u64 (ep : Int))).setCell ⟨w.heap.size + 1 + 1, 5, none⟩ (.int .u64 (fl : Int))).setCell ⟨w.heap.size + 1 + 1, 6, none⟩ (.int .u64 (un : Int))).setCell ⟨w.heap.size + 1 + 1, 7, none⟩ (.int .u64 ((v : Nat) : Int))).setCell ⟨w.heap.size + 1 + 1, 8, none⟩ (.int .u64 (st : Int))).setCell ⟨w.heap.size + 1 + 1, 9, none⟩ (.int .u64 (ti : Int))).setCell ⟨w.heap.size + 1 + 1, 10, none⟩ (.slice Q n1 c1)).setCell ⟨w.heap.size + 1 + 1, 11, none⟩ (.slice G m d)).setCell ⟨w.heap.size + 1 + 1 + 1, 0, none⟩ (.slice A n c)).setCell ⟨w.heap.size + 1 + 1 + 1, 1, none⟩ (.int .i64 (a1 : Int))).setCell ⟨w.heap.size + 1 + 1 + 1, 2, none⟩ (.bool g1)) = W := ⟨_, rfl⟩
  have GG : Blk W6 (w.heap.size + 1 + 1 + 1) 117 #[.slice A n c, .int .i64 (a1 : Int), .bool g1] ∧ Blk W6 (w.heap.size + 1 + 1) 40 #[.int .u8 (k : Int), .int .u32 (id : Int), .int .u16 (code : Int), .bool last, .int .u64 (ep : Int), .int .u64 (fl : Int), .int .u64 (un : Int), .int .u64 ((v : Nat) : Int), .int .u64 (st : Int), .int .u64 (ti : Int), .slice Q n1 c1, .slice G m d] ∧ Below w.heap.size w W6 := by
    rw [← hW]
    exact FF.out
  rw [hW]
  clear hW FF
  have f0 := GG.1.cell 0
  have f1 := GG.1.cell 1
  have f2 := GG.1.cell 2
  have h0 := GG.2.1.cell 0
  have h1 := GG.2.1.cell 1
  have h2 := GG.2.1.cell 2
  have h3 := GG.2.1.cell 3
  have h4 := GG.2.1.cell 4
  have h5 := GG.2.1.cell 5
  have h6 := GG.2.1.cell 6
  have h7 := GG.2.1.cell 7
  have h8 := GG.2.1.cell 8
  have h9 := GG.2.1.cell 9
  have h10 := GG.2.1.cell 10
  have h11 := GG.2.1.cell 11
  refine bodyPost_ret (v := .tuple #[.agg #[.int .u8 (k : Int), .int .u32 (id : Int), .int .u16 (code : Int), .bool last, .int .u64 (ep : Int), .int .u64 (fl : Int), .int .u64 (un : Int), .int .u64 ((v : Nat) : Int), .int .u64 (st : Int), .int .u64 (ti : Int), .slice Q n1 c1, .slice G m d], .agg #[.slice A n c, .int .i64 (a1 : Int), .bool g1], .bool false]) ?_ rfl ⟨a1, g1, ha1, N1.out, rfl, GG.2.2.drew⟩
  simp [results, Tryz.results65, go_sem, f0, f1, f2, h0, h1, h2, h3, h4, h5, h6, h7, h8, h9, h10, h11]
set_option maxRecDepth 100000 in
set_option maxHeartbeats 2000000 in
theorem refTakeStored_any (x : Rp.V) (n c a B v : Nat) (A : Option Addr) (b : List Nat) (f : Bool) (w : World) (hb : Bytes w B A n b) (hB : B ≤ w.heap.size) (hn : n ≤ 1000000) (ha : a ≤ n) (hv : Rp.vl (b.drop a, f) 8 = v) :
    Calls Tryz.prog 65 #[x.val, .int .u8 115, .agg #[.slice A n c, .int .i64 (a : Int), .bool f]] w fun e w' => ∃ a' g, a' ≤ n ∧ Rp.nx (b.drop a, f) 8 = (b.drop a', g) ∧ e = .returned (.tuple #[({ x with st := v } : Rp.V).val, .agg #[.slice A n c, .int .i64 (a' : Int), .bool g], .bool false]) ∧ Below w.heap.size w w' := by
  obtain ⟨k, id, code, last, ep, fl, un, le, st, ti, Q, n1, c1, G, m, d⟩ := x
  have HBY : Hid (∀ W, Below w.heap.size w W → Bytes W B A n b) := Lib.hid fun W hW => hb.below hW hB
  have HBS : Hid (∀ W, Below w.heap.size w W → B ≤ W.heap.size) := Lib.hid fun W hW => Nat.le_trans hB hW.size
  have S0 := Lib.hid (((((Held.start w).new #[.int .u8 (k : Int), .int .u32 (id : Int), .int .u16 (code : Int), .bool last, .int .u64 (ep : Int), .int .u64 (fl : Int), .int .u64 (un : Int), .int .u64 (le : Int), .int .u64 (st : Int), .int .u64 (ti : Int), .slice Q n1 c1, .slice G m d] 40).new #[.slice A n c, .int .i64 (a : Int), .bool f] 117).new #[.int .u8 0, .int .u32 0, .int .u16 0, .bool false, .int .u64 0, .int .u64 0, .int .u64 0, .int .u64 0, .int .u64 0, .int .u64 0, .slice none 0 0, .slice none 0 0] 40).new #[.slice none 0 0, .int .i64 0, .bool false] 117)
  simp only [World.size_alloc] at S0
  have HV := Lib.hid hv
  clear hb hB hv
  unfold Rp.V.val Rp.V.cells
  dsimp only
  go_enter Tryz.func65, Tryz.ntmps65
  go_wp2_with fail
  obtain ⟨W0, hW0⟩ : ∃ W, (((w.alloc (.cells #[.int .u8 (k : Int), .int .u32 (id : Int), .int .u16 (code : Int), .bool last, .int .u64 (ep : Int), .int .u64 (fl : Int), .int .u64 (un : Int), .int .u64 (le : Int), .int .u64 (st : Int), .int .u64 (ti : Int), .slice Q n1 c1, .slice G m d] 40)).alloc (.cells #[.slice A n c, .int .i64 (a : Int), .bool f] 117)).alloc (.cells #[.int .u8 0, .int .u32 0, .int .u16 0, .bool false, .int .u64 0, .int .u64 0, .int .u64 0, .int .u64 0, .int .u64 0, .int .u64 0, .slice none 0 0, .slice none 0 0] 40)).alloc (.cells #[.slice none 0 0, .int .i64 0, .bool false] 117) = W := ⟨_, rfl⟩
  rw [hW0] at S0 ⊢
  clear hW0
  have S0 := Lib.hid (S0.out.sub8 (l' := [(w.heap.size + 1, 117, (#[.slice A n c, .int .i64 (a : Int), .bool f] : Array Value)), (w.heap.size, 40, (#[.int .u8 (k : Int), .int .u32 (id : Int), .int .u16 (code : Int), .bool last, .int .u64 (ep : Int), .int .u64 (fl : Int), .int .u64 (un : Int), .int .u64 (le : Int), .int .u64 (st : Int), .int .u64 (ti : Int), .slice Q n1 c1, .slice G m d] : Array Value)), (w.heap.size + 1 + 1, 40, (#[.int .u8 0, .int .u32 0, .int .u16 0, .bool false, .int .u64 0, .int .u64 0, .int .u64 0, .int .u64 0, .int .u64 0, .int .u64 0, .slice none 0 0, .slice none 0 0] : Array Value)), (w.heap.size + 1 + 1 + 1, 117, (#[.slice none 0 0, .int .i64 0, .bool false] : Array Value))]) (by intro x hx; simp only [List.mem_cons, List.not_mem_nil, or_false] at hx ⊢; rcases hx with h | h | h | h <;> simp [h]))
  refine (rt_take (c := c) 8 (HBY.out W0 S0.out.1) (HBS.out W0 S0.out.1) hn ha (by omega)).mono ?_
  rw [HV.out]
  rintro e w1 ⟨a1, g1, ha1, hs1, rfl, b1⟩
  have N1 := Lib.hid hs1
  have S1 := Lib.hid (S0.out.step b1)
  clear b1 hs1
  have kk := S1.out.at_ (List.mem_cons_self ..)
  have p0 := kk.cell 0
  have pf0 := kk.frozen 0
  have p1 := kk.cell 1
  have pf1 := kk.frozen 1
  have p2 := kk.cell 2
  have pf2 := kk.frozen 2
  clear kk
  have kk := S1.out.at_ (List.mem_cons_of_mem _ (List.mem_cons_self ..))
  have q0 := kk.cell 0
  have qf0 := kk.frozen 0
  have q1 := kk.cell 1
  have qf1 := kk.frozen 1
  have q2 := kk.cell 2
  have qf2 := kk.frozen 2
  have q3 := kk.cell 3
  have qf3 := kk.frozen 3
  have q4 := kk.cell 4
  have qf4 := kk.frozen 4
  have q5 := kk.cell 5
  have qf5 := kk.frozen 5
  have q6 := kk.cell 6
  have qf6 := kk.frozen 6
  have q7 := kk.cell 7
  have qf7 := kk.frozen 7
  have q8 := kk.cell 8
  have qf8 := kk.frozen 8
  have q9 := kk.cell 9
  have qf9 := kk.frozen 9
  have q10 := kk.cell 10
  have qf10 := kk.frozen 10
  have q11 := kk.cell 11
  have qf11 := kk.frozen 11
  clear kk
  go_wp2_with fail
  clear p0 pf0 p1 pf1 p2 pf2 q0 qf0 q1 qf1 q2 qf2 q3 qf3 q4 qf4 q5 qf5 q6 qf6 q7 qf7 q8 qf8 q9 qf9 q10 qf10 q11 qf11
  have s1 := ((S1.out.three8 (by omega) (by intro x hx; simp only [List.mem_cons, List.not_mem_nil, or_false] at hx; rcases hx with h | h | h <;> rw [h] <;> (dsimp only; omega)) (.slice A n c) (.int .i64 (a1 : Int)) (.bool g1)).sub8 (l' := [(w.heap.size, 40, (#[.int .u8 (k : Int), .int .u32 (id : Int), .int .u16 (code : Int), .bool last, .int .u64 (ep : Int), .int .u64 (fl : Int), .int .u64 (un : Int), .int .u64 (le : Int), .int .u64 (st : Int), .int .u64 (ti : Int), .slice Q n1 c1, .slice G m d] : Array Value)), (w.heap.size + 1, 117, (#[.slice A n c, .int .i64 (a1 : Int), .bool g1] : Array Value)), (w.heap.size + 1 + 1, 40, (#[.int .u8 0, .int .u32 0, .int .u16 0, .bool false, .int .u64 0, .int .u64 0, .int .u64 0, .int .u64 0, .int .u64 0, .int .u64 0, .slice none 0 0, .slice none 0 0] : Array Value)), (w.heap.size + 1 + 1 + 1, 117, (#[.slice none 0 0, .int .i64 0, .bool false] : Array Value))]) (by intro x hx; simp only [List.mem_cons, List.not_mem_nil, or_false] at hx ⊢; rcases hx with h | h | h | h <;> simp [h])).put8 (Nat.le_refl _) (by intro x hx; simp only [List.mem_cons, List.not_mem_nil, or_false] at hx; rcases hx with h | h | h <;> rw [h] <;> (dsimp only; omega)) 8 (.int .u64 ((v : Nat) : Int))
  obtain ⟨W1, hW⟩ : ∃ W, (((w1.setCell ⟨w.heap.size + 1, 0, none⟩ (.slice A n c)).setCell ⟨w.heap.size + 1, 1, none⟩ (.int .i64 (a1 : Int))).setCell ⟨w.heap.size + 1, 2, none⟩ (.bool g1)).setCell ⟨w.heap.size, 8, none⟩ (.int .u64 ((v : Nat) : Int)) = W := ⟨_, rfl⟩
  rw [hW] at s1 ⊢
  have Sx := Lib.hid s1
  clear hW s1
  have Sx : Hid (Held w W1 [(w.heap.size, 40, (#[.int .u8 (k : Int), .int .u32 (id : Int), .int .u16 (code : Int), .bool last, .int .u64 (ep : Int), .int .u64 (fl : Int), .int .u64 (un : Int), .int .u64 (le : Int), .int .u64 ((v : Nat) : Int), .int .u64 (ti : Int), .slice Q n1 c1, .slice G m d] : Array Value)), (w.heap.size + 1, 117, (#[.slice A n c, .int .i64 (a1 : Int), .bool g1] : Array Value)), (w.heap.size + 1 + 1, 40, (#[.int .u8 0, .int .u32 0, .int .u16 0, .bool false, .int .u64 0, .int .u64 0, .int .u64 0, .int .u64 0, .int .u64 0, .int .u64 0, .slice none 0 0, .slice none 0 0] : Array Value)), (w.heap.size + 1 + 1 + 1, 117, (#[.slice none 0 0, .int .i64 0, .bool false] : Array Value))]) := Lib.hid Sx.out
  have kk := Sx.out.at_ (List.mem_cons_self ..)
  have q0 := kk.cell 0
  have q1 := kk.cell 1
  have q2 := kk.cell 2
  have q3 := kk.cell 3
  have q4 := kk.cell 4
  have q5 := kk.cell 5
  have q6 := kk.cell 6
  have q7 := kk.cell 7
  have q8 := kk.cell 8
  have q9 := kk.cell 9
  have q10 := kk.cell 10
  have q11 := kk.cell 11
  clear kk
  have kk := Sx.out.at_ (List.mem_cons_of_mem _ (List.mem_cons_self ..))
  have p0 := kk.cell 0
  have p1 := kk.cell 1
  have p2 := kk.cell 2
  clear kk
  have kk := Sx.out.at_ (List.mem_cons_of_mem _ (List.mem_cons_of_mem _ (List.mem_cons_self ..)))
  have r0 := kk.cell 0
  have rf0 := kk.frozen 0
  have r1 := kk.cell 1
  have rf1 := kk.frozen 1
  have r2 := kk.cell 2
  have rf2 := kk.frozen 2
  have r3 := kk.cell 3
  have rf3 := kk.frozen 3
  have r4 := kk.cell 4
  have rf4 := kk.frozen 4
  have r5 := kk.cell 5
  have rf5 := kk.frozen 5
  have r6 := kk.cell 6
  have rf6 := kk.frozen 6
  have r7 := kk.cell 7
  have rf7 := kk.frozen 7
  have r8 := kk.cell 8
  have rf8 := kk.frozen 8
  have r9 := kk.cell 9
  have rf9 := kk.frozen 9
  have r10 := kk.cell 10
  have rf10 := kk.frozen 10
  have r11 := kk.cell 11
  have rf11 := kk.frozen 11
  clear kk
  have kk := Sx.out.at_ (List.mem_cons_of_mem _ (List.mem_cons_of_mem _ (List.mem_cons_of_mem _ (List.mem_cons_self ..))))
  have s0 := kk.cell 0
  have sf0 := kk.frozen 0
  have s1 := kk.cell 1
  have sf1 := kk.frozen 1
  have s2 := kk.cell 2
  have sf2 := kk.frozen 2
  clear kk
  go_region
  go_wp2_with fail
  clear q0 q1 q2 q3 q4 q5 q6 q7 q8 q9 q10 q11 p0 p1 p2 r0 rf0 r1 rf1 r2 rf2 r3 rf3 r4 rf4 r5 rf5 r6 rf6 r7 rf7 r8 rf8 r9 rf9 r10 rf10 r11 rf11 s0 sf0 s1 sf1 s2 sf2
  have T0 := Sx.out.sub8 (l' := [(w.heap.size + 1 + 1, 40, (#[.int .u8 0, .int .u32 0, .int .u16 0, .bool false, .int .u64 0, .int .u64 0, .int .u64 0, .int .u64 0, .int .u64 0, .int .u64 0, .slice none 0 0, .slice none 0 0] : Array Value)), (w.heap.size + 1 + 1 + 1, 117, (#[.slice none 0 0, .int .i64 0, .bool false] : Array Value)), (w.heap.size, 40, (#[.int .u8 (k : Int), .int .u32 (id : Int), .int .u16 (code : Int), .bool last, .int .u64 (ep : Int), .int .u64 (fl : Int), .int .u64 (un : Int), .int .u64 (le : Int), .int .u64 ((v : Nat) : Int), .int .u64 (ti : Int), .slice Q n1 c1, .slice G m d] : Array Value)), (w.heap.size + 1, 117, (#[.slice A n c, .int .i64 (a1 : Int), .bool g1] : Array Value))]) (by intro x hx; simp only [List.mem_cons, List.not_mem_nil, or_false] at hx ⊢; rcases hx with h | h | h | h <;> simp [h])
  have T1 := T0.twelve8 (by omega) (by intro x hx; simp only [List.mem_cons, List.not_mem_nil, or_false] at hx; rcases hx with h | h | h <;> rw [h] <;> (dsimp only; omega)) (.int .u8 (k : Int)) (.int .u32 (id : Int)) (.int .u16 (code : Int)) (.bool last) (.int .u64 (ep : Int)) (.int .u64 (fl : Int)) (.int .u64 (un : Int)) (.int .u64 (le : Int)) (.int .u64 ((v : Nat) : Int)) (.int .u64 (ti : Int)) (.slice Q n1 c1) (.slice G m d)
  have T2 := T1.sub8 (l' := [(w.heap.size + 1 + 1 + 1, 117, (#[.slice none 0 0, .int .i64 0, .bool false] : Array Value)), (w.heap.size + 1 + 1, 40, (#[.int .u8 (k : Int), .int .u32 (id : Int), .int .u16 (code : Int), .bool last, .int .u64 (ep : Int), .int .u64 (fl : Int), .int .u64 (un : Int), .int .u64 (le : Int), .int .u64 ((v : Nat) : Int), .int .u64 (ti : Int), .slice Q n1 c1, .slice G m d] : Array Value)), (w.heap.size, 40, (#[.int .u8 (k : Int), .int .u32 (id : Int), .int .u16 (code : Int), .bool last, .int .u64 (ep : Int), .int .u64 (fl : Int), .int .u64 (un : Int), .int .u64 (le : Int), .int .u64 ((v : Nat) : Int), .int .u64 (ti : Int), .slice Q n1 c1, .slice G m d] : Array Value)), (w.heap.size + 1, 117, (#[.slice A n c, .int .i64 (a1 : Int), .bool g1] : Array Value))]) (by intro x hx; simp only [List.mem_cons, List.not_mem_nil, or_false] at hx ⊢; rcases hx with h | h | h | h <;> simp [h])
  have T3 := T2.three8 (by omega) (by intro x hx; simp only [List.mem_cons, List.not_mem_nil, or_false] at hx; rcases hx with h | h | h <;> rw [h] <;> (dsimp only; omega)) (.slice A n c) (.int .i64 (a1 : Int)) (.bool g1)
  have FF := Lib.hid (And.intro (T3.at_ (List.mem_cons_self ..)) (And.intro (T3.at_ (List.mem_cons_of_mem _ (List.mem_cons_self ..))) T3.1))
  clear T0 T1 T2 T3
  obtain ⟨W6, hW⟩ : ∃ W, (((((((((((((((W1.setCell ⟨w.heap.size + 1 + 1, 0, none⟩ (.int .u8 (k : Int))).setCell ⟨w.heap.size + 1 + 1, 1, none⟩ (.int .u32 (id : Int))).setCell ⟨w.heap.size + 1 + 1, 2, none⟩ (.int .u16 (code : Int))).setCell ⟨w.heap.size + 1 + 1, 3, none⟩ (.bool last)).setCell ⟨w.heap.size + 1 + 1, 4, none⟩ (.int .u64 (ep : Int))).setCell ⟨w.heap.size + 1 + 1, 5, none⟩ (.int .u64 (fl : Int))).setCell ⟨w.heap.size + 1 + 1, 6, none⟩ (.int .u64 (un : Int))).setCell ⟨w.heap.size + 1 + 1, 7, none⟩ (.int .u64 (le : Int))).setCell ⟨w.heap.size + 1 + 1, 8, none⟩ (.int .u64 ((v : Nat) : Int))).setCell ⟨w.heap.size + 1 + 1, 9, none⟩ (.int .u64 (ti : Int))).setCell ⟨w.heap.size + 1 + 1, 10, none⟩ (.slice Q n1 c1)).setCell ⟨w.heap.size + 1 + 1, 11, none⟩ (.slice G m d)).setCell ⟨w.heap.size + 1 + 1 + 1, 0, none⟩ (.slice A n c)).setCell ⟨w.heap.size + 1 + 1 + 1, 1, none⟩ (.int .i64 (a1 : Int))).setCell ⟨w.heap.size + 1 + 1 + 1, 2, none⟩ (.bool g1)) = W := ⟨_, rfl⟩
  have GG : Blk W6 (w.heap.size + 1 + 1 + 1) 117 #[.slice A n c, .int .i64 (a1 : Int), .bool g1] ∧ Blk W6 (w.heap.size + 1 + 1) 40 #[.int .u8 (k : Int), .int .u32 (id : Int), .int .u16 (code : Int), .bool last, .int .u64 (ep : Int), .int .u64 (fl : Int), .int .u64 (un : Int), .int .u64 (le : Int), .int .u64 ((v : Nat) : Int), .int .u64 (ti : Int), .slice Q n1 c1, .slice G m d] ∧ Below w.heap.size w W6 := by
    rw [← hW]
    exact FF.out
  rw [hW]
  clear hW FF
  have f0 := GG.1.cell 0
  have f1 := GG.1.cell 1
  have f2 := GG.1.cell 2
  have h0 := GG.2.1.cell 0
  have h1 := GG.2.1.cell 1
  have h2 := GG.2.1.cell 2
  have h3 := GG.2.1.cell 3
  have h4 := GG.2.1.cell 4
  have h5 := GG.2.1.cell 5
  have h6 := GG.2.1.cell 6
  have h7 := GG.2.1.cell 7
  have h8 := GG.2.1.cell 8
  have h9 := GG.2.1.cell 9
  have h10 := GG.2.1.cell 10
  have h11 := GG.2.1.cell 11
  refine bodyPost_ret (v := .tuple #[.agg #[.int .u8 (k : Int), .int .u32 (id : Int), .int .u16 (code : Int), .bool last, .int .u64 (ep : Int), .int .u64 (fl : Int), .int .u64 (un : Int), .int .u64 (le : Int), .int .u64 ((v : Nat) : Int), .int .u64 (ti : Int), .slice Q n1 c1, .slice G m d], .agg #[.slice A n c, .int .i64 (a1 : Int), .bool g1], .bool false]) ?_ rfl ⟨a1, g1, ha1, N1.out, rfl, GG.2.2.drew⟩
  simp [results, Tryz.results65, go_sem, f0, f1, f2, h0, h1, h2, h3, h4, h5, h6, h7, h8, h9, h10, h11]
set_option maxRecDepth 100000 in
set_option maxHeartbeats 2000000 in
theorem refTakeTick_any (x : Rp.V) (n c a B v : Nat) (A : Option Addr) (b : List Nat) (f : Bool) (w : World) (hb : Bytes w B A n b) (hB : B ≤ w.heap.size) (hn : n ≤ 1000000) (ha : a ≤ n) (hv : Rp.vl (b.drop a, f) 8 = v) :
    Calls Tryz.prog 65 #[x.val, .int .u8 116, .agg #[.slice A n c, .int .i64 (a : Int), .bool f]] w fun e w' => ∃ a' g, a' ≤ n ∧ Rp.nx (b.drop a, f) 8 = (b.drop a', g) ∧ e = .returned (.tuple #[({ x with ti := v } : Rp.V).val, .agg #[.slice A n c, .int .i64 (a' : Int), .bool g], .bool false]) ∧ Below w.heap.size w w' := by
  obtain ⟨k, id, code, last, ep, fl, un, le, st, ti, Q, n1, c1, G, m, d⟩ := x
  have HBY : Hid (∀ W, Below w.heap.size w W → Bytes W B A n b) := Lib.hid fun W hW => hb.below hW hB
  have HBS : Hid (∀ W, Below w.heap.size w W → B ≤ W.heap.size) := Lib.hid fun W hW => Nat.le_trans hB hW.size
  have S0 := Lib.hid (((((Held.start w).new #[.int .u8 (k : Int), .int .u32 (id : Int), .int .u16 (code : Int), .bool last, .int .u64 (ep : Int), .int .u64 (fl : Int), .int .u64 (un : Int), .int .u64 (le : Int), .int .u64 (st : Int), .int .u64 (ti : Int), .slice Q n1 c1, .slice G m d] 40).new #[.slice A n c, .int .i64 (a : Int), .bool f] 117).new #[.int .u8 0, .int .u32 0, .int .u16 0, .bool false, .int .u64 0, .int .u64 0, .int .u64 0, .int .u64 0, .int .u64 0, .int .u64 0, .slice none 0 0, .slice none 0 0] 40).new #[.slice none 0 0, .int .i64 0, .bool false] 117)
  simp only [World.size_alloc] at S0
  have HV := Lib.hid hv
  clear hb hB hv
  unfold Rp.V.val Rp.V.cells
  dsimp only
  go_enter Tryz.func65, Tryz.ntmps65
  go_wp2_with fail
  obtain ⟨W0, hW0⟩ : ∃ W, (((w.alloc (.cells #[.int .u8 (k : Int), .int .u32 (id : Int), .int .u16 (code : Int), .bool last, .int .u64 (ep : Int), .int .u64 (fl : Int), .int .u64 (un : Int), .int .u64 (le : Int), .int .u64 (st : Int), .int .u64 (ti : Int), .slice Q n1 c1, .slice G m d] 40)).alloc (.cells #[.slice A n c, .int .i64 (a : Int), .bool f] 117)).alloc (.cells #[.int .u8 0, .int .u32 0, .int .u16 0, .bool false, .int .u64 0, .int .u64 0, .int .u64 0, .int .u64 0, .int .u64 0, .int .u64 0, .slice none 0 0, .slice none 0 0] 40)).alloc (.cells #[.slice none 0 0, .int .i64 0, .bool false] 117) = W := ⟨_, rfl⟩
  rw [hW0] at S0 ⊢
  clear hW0
  have S0 := Lib.hid (S0.out.sub8 (l' := [(w.heap.size + 1, 117, (#[.slice A n c, .int .i64 (a : Int), .bool f] : Array Value)), (w.heap.size, 40, (#[.int .u8 (k : Int), .int .u32 (id : Int), .int .u16 (code : Int), .bool last, .int .u64 (ep : Int), .int .u64 (fl : Int), .int .u64 (un : Int), .int .u64 (le : Int), .int .u64 (st : Int), .int .u64 (ti : Int), .slice Q n1 c1, .slice G m d] : Array Value)), (w.heap.size + 1 + 1, 40, (#[.int .u8 0, .int .u32 0, .int .u16 0, .bool false, .int .u64 0, .int .u64 0, .int .u64 0, .int .u64 0, .int .u64 0, .int .u64 0, .slice none 0 0, .slice none 0 0] : Array Value)), (w.heap.size + 1 + 1 + 1, 117, (#[.slice none 0 0, .int .i64 0, .bool false] : Array Value))]) (by intro x hx; simp only [List.mem_cons, List.not_mem_nil, or_false] at hx ⊢; rcases hx with h | h | h | h <;> simp [h]))
  refine (rt_take (c := c) 8 (HBY.out W0 S0.out.1) (HBS.out W0 S0.out.1) hn ha (by omega)).mono ?_
  rw [HV.out]
  rintro e w1 ⟨a1, g1, ha1, hs1, rfl, b1⟩
  have N1 := Lib.hid hs1
  have S1 := Lib.hid (S0.out.step b1)
  clear b1 hs1
  have kk := S1.out.at_ (List.mem_cons_self ..)
  have p0 := kk.cell 0
  have pf0 := kk.frozen 0
  have p1 := kk.cell 1
  have pf1 := kk.frozen 1
  have p2 := kk.cell 2
  have pf2 := kk.frozen 2
  clear kk
  have kk := S1.out.at_ (List.mem_cons_of_mem _ (List.mem_cons_self ..))
  have q0 := kk.cell 0
  have qf0 := kk.frozen 0
  have q1 := kk.cell 1
  have qf1 := kk.frozen 1
  have q2 := kk.cell 2
  have qf2 := kk.frozen 2
  have q3 := kk.cell 3
  have qf3 := kk.frozen 3
  have q4 := kk.cell 4
  have qf4 := kk.frozen 4
  have q5 := kk.cell 5
  have qf5 := kk.frozen 5
  have q6 := kk.cell 6
  have qf6 := kk.frozen 6
  have q7 := kk.cell 7
  have qf7 := kk.frozen 7
  have q8 := kk.cell 8
  have qf8 := kk.frozen 8
  have q9 := kk.cell 9
  have qf9 := kk.frozen 9
  have q10 := kk.cell 10
  have qf10 := kk.frozen 10
  have q11 := kk.cell 11
  have qf11 := kk.frozen 11
  clear kk
  go_wp2_with fail
  clear p0 pf0 p1 pf1 p2 pf2 q0 qf0 q1 qf1 q2 qf2 q3 qf3 q4 qf4 q5 qf5 q6 qf6 q7 qf7 q8 qf8 q9 qf9 q10 qf10 q11 qf11
  have s1 := ((S1.out.three8 (by omega) (by intro x hx; simp only [List.mem_cons, List.not_mem_nil, or_false] at hx; rcases hx with h | h | h <;> rw [h] <;> (dsimp only; omega)) (.slice A n c) (.int .i64 (a1 : Int)) (.bool g1)).sub8 (l' := [(w.heap.size, 40, (#[.int .u8 (k : Int), .int .u32 (id : Int), .int .u16 (code : Int), .bool last, .int .u64 (ep : Int), .int .u64 (fl : Int), .int .u64 (un : Int), .int .u64 (le : Int), .int .u64 (st : Int), .int .u64 (ti : Int), .slice Q n1 c1, .slice G m d] : Array Value)), (w.heap.size + 1, 117, (#[.slice A n c, .int .i64 (a1 : Int), .bool g1] : Array Value)), (w.heap.size + 1 + 1, 40, (#[.int .u8 0, .int .u32 0, .int .u16 0, .bool false, .int .u64 0, .int .u64 0, .int .u64 0, .int .u64 0, .int .u64 0, .int .u64 0, .slice none 0 0, .slice none 0 0] : Array Value)), (w.heap.size + 1 + 1 + 1, 117, (#[.slice none 0 0, .int .i64 0, .bool false] : Array Value))]) (by intro x hx; simp only [List.mem_cons, List.not_mem_nil, or_false] at hx ⊢; rcases hx with h | h | h | h <;> simp [h])).put8 (Nat.le_refl _) (by intro x hx; simp only [List.mem_cons, List.not_mem_nil, or_false] at hx; rcases hx with h | h | h <;> rw [h] <;> (dsimp only; omega)) 9 (.int .u64 ((v : Nat) : Int))
  obtain ⟨W1, hW⟩ : ∃ W, (((w1.setCell ⟨w.heap.size + 1, 0, none⟩ (.slice A n c)).setCell ⟨w.heap.size + 1, 1, none⟩ (.int .i64 (a1 : Int))).setCell ⟨w.heap.size + 1, 2, none⟩ (.bool g1)).setCell ⟨w.heap.size, 9, none⟩ (.int .u64 ((v : Nat) : Int)) = W := ⟨_, rfl⟩
  rw [hW] at s1 ⊢
  have Sx := Lib.hid s1
  clear hW s1
  have Sx : Hid (Held w W1 [(w.heap.size, 40, (#[.int .u8 (k : Int), .int .u32 (id : Int), .int .u16 (code : Int), .bool last, .int .u64 (ep : Int), .int .u64 (fl : Int), .int .u64 (un : Int), .int .u64 (le : Int), .int .u64 (st : Int), .int .u64 ((v : Nat) : Int), .slice Q n1 c1, .slice G m d] : Array Value)), (w.heap.size + 1, 117, (#[.slice A n c, .int .i64 (a1 : Int), .bool g1] : Array Value)), (w.heap.size + 1 + 1, 40, (#[.int .u8 0, .int .u32 0, .int .u16 0, .bool false, .int .u64 0, .int .u64 0, .int .u64 0, .int .u64 0, .int .u64 0, .int .u64 0, .slice none 0 0, .slice none 0 0] : Array Value)), (w.heap.size + 1 + 1 + 1, 117, (#[.slice none 0 0, .int .i64 0, .bool false] : Array Value))]) := Lib.hid Sx.out
  have kk := Sx.out.at_ (List.mem_cons_self ..)
  have q0 := kk.cell 0
  have q1 := kk.cell 1
  have q2 := kk.cell 2
  have q3 := kk.cell 3
  have q4 := kk.cell 4
  have q5 := kk.cell 5
  have q6 := kk.cell 6
  have q7 := kk.cell 7
  have q8 := kk.cell 8
  have q9 := kk.cell 9
  have q10 := kk.cell 10
  have q11 := kk.cell 11
  clear kk
  have kk := Sx.out.at_ (List.mem_cons_of_mem _ (List.mem_cons_self ..))
  have p0 := kk.cell 0
  have p1 := kk.cell 1
  have p2 := kk.cell 2
  clear kk
  have kk := Sx.out.at_ (List.mem_cons_of_mem _ (List.mem_cons_of_mem _ (List.mem_cons_self ..)))
  have r0 := kk.cell 0
  have rf0 := kk.frozen 0
  have r1 := kk.cell 1
  have rf1 := kk.frozen 1
  have r2 := kk.cell 2
  have rf2 := kk.frozen 2
  have r3 := kk.cell 3
  have rf3 := kk.frozen 3
  have r4 := kk.cell 4
  have rf4 := kk.frozen 4
  have r5 := kk.cell 5
  have rf5 := kk.frozen 5
  have r6 := kk.cell 6
  have rf6 := kk.frozen 6
  have r7 := kk.cell 7
  have rf7 := kk.frozen 7
  have r8 := kk.cell 8
  have rf8 := kk.frozen 8
  have r9 := kk.cell 9
  have rf9 := kk.frozen 9
  have r10 := kk.cell 10
  have rf10 := kk.frozen 10
  have r11 := kk.cell 11
  have rf11 := kk.frozen 11
  clear kk
  have kk := Sx.out.at_ (List.mem_cons_of_mem _ (List.mem_cons_of_mem _ (List.mem_cons_of_mem _ (List.mem_cons_self ..))))
  have s0 := kk.cell 0
  have sf0 := kk.frozen 0
  have s1 := kk.cell 1
  have sf1 := kk.frozen 1
  have s2 := kk.cell 2
  have sf2 := kk.frozen 2
  clear kk
  go_region
  go_wp2_with fail
  clear q0 q1 q2 q3 q4 q5 q6 q7 q8 q9 q10 q11 p0 p1 p2 r0 rf0 r1 rf1 r2 rf2 r3 rf3 r4 rf4 r5 rf5 r6 rf6 r7 rf7 r8 rf8 r9 rf9 r10 rf10 r11 rf11 s0 sf0 s1 sf1 s2 sf2
  have T0 := Sx.out.sub8 (l' := [(w.heap.size + 1 + 1, 40, (#[.int .u8 0, .int .u32 0, .int .u16 0, .bool false, .int .u64 0, .int .u64 0, .int .u64 0, .int .u64 0, .int .u64 0, .int .u64 0, .slice none 0 0, .slice none 0 0] : Array Value)), (w.heap.size + 1 + 1 + 1, 117, (#[.slice none 0 0, .int .i64 0, .bool false] : Array Value)), (w.heap.size, 40, (#[.int .u8 (k : Int), .int .u32 (id : Int), .int .u16 (code : Int), .bool last, .int .u64 (ep : Int), .int .u64 (fl : Int), .int .u64 (un : Int), .int .u64 (le : Int), .int .u64 (st : Int), .int .u64 ((v : Nat) : Int), .slice Q n1 c1, .slice G m d] : Array Value)), (w.heap.size + 1, 117, (#[.slice A n c, .int .i64 (a1 : Int), .bool g1] : Array Value))]) (by intro x hx; simp only [List.mem_cons, List.not_mem_nil, or_false] at hx ⊢; rcases hx with h | h | h | h <;> simp [h])
  have T1 := T0.twelve8 (by omega) (by intro x hx; simp only [List.mem_cons, List.not_mem_nil, or_false] at hx; rcases hx with h | h | h <;> rw [h] <;> (dsimp only; omega)) (.int .u8 (k : Int)) (.int .u32 (id : Int)) (.int .u16 (code : Int)) (.bool last) (.int .u64 (ep : Int)) (.int .u64 (fl : Int)) (.int .u64 (un : Int)) (.int .u64 (le : Int)) (.int .u64 (st : Int)) (.int .u64 ((v : Nat) : Int)) (.slice Q n1 c1) (.slice G m d)
  have T2 := T1.sub8 (l' := [(w.heap.size + 1 + 1 + 1, 117, (#[.slice none 0 0, .int .i64 0, .bool false] : Array Value)), (w.heap.size + 1 + 1, 40, (#[.int .u8 (k : Int), .int .u32 (id : Int), .int .u16 (code : Int), .bool last, .int .u64 (ep : Int), .int .u64 (fl : Int), .int .u64 (un : Int), .int .u64 (le : Int), .int .u64 (st : Int), .int .u64 ((v : Nat) : Int), .slice Q n1 c1, .slice G m d] : Array Value)), (w.heap.size, 40, (#[.int .u8 (k : Int), .int .u32 (id : Int), .int .u16 (code : Int), .bool last, .int .u64 (ep : Int), .int .u64 (fl : Int), .int .u64 (un : Int), .int .u64 (le : Int), .int .u64 (st : Int), .int .u64 ((v : Nat) : Int), .slice Q n1 c1, .slice G m d] : Array Value)), (w.heap.size + 1, 117, (#[.slice A n c, .int .i64 (a1 : Int), .bool g1] : Array Value))]) (by intro x hx; simp only [List.mem_cons, List.not_mem_nil, or_false] at hx ⊢; rcases hx with h | h | h | h <;> simp [h])
  have T3 := T2.three8 (by omega) (by intro x hx; simp only [List.mem_cons, List.not_mem_nil, or_false] at hx; rcases hx with h | h | h <;> rw [h] <;> (dsimp only; omega)) (.slice A n c) (.int .i64 (a1 : Int)) (.bool g1)
  have FF := Lib.hid (And.intro (T3.at_ (List.mem_cons_self ..)) (And.intro (T3.at_ (List.mem_cons_of_mem _ (List.mem_cons_self ..))) T3.1))
  clear T0 T1 T2 T3
  obtain ⟨W6, hW⟩ : ∃ W, (((((((((((((((W1.setCell ⟨w.heap.size + 1 + 1, 0, none⟩ (.int .u8 (k : Int))).setCell ⟨w.heap.size + 1 + 1, 1, none⟩ (.int .u32 (id : Int))).setCell ⟨w.heap.size + 1 + 1, 2, none⟩ (.int .u16 (code : Int))).setCell ⟨w.heap.size + 1 + 1, 3, none⟩ (.bool last)).setCell ⟨w.heap.size + 1 + 1, 4, none⟩ (.int .u64 (ep : Int))).setCell ⟨w.heap.size + 1 + 1, 5, none⟩ (.int .u64 (fl : Int))).setCell ⟨w.heap.size + 1 + 1, 6, none⟩ (.int .u64 (un : Int))).setCell ⟨w.heap.size + 1 + 1, 7, none⟩ (.int .u64 (le : Int))).setCell ⟨w.heap.size + 1 + 1, 8, none⟩ (.int .u64 (st : Int))).setCell ⟨w.heap.size + 1 + 1, 9, none⟩ (.int .u64 ((v : Nat) : Int))).setCell ⟨w.heap.size + 1 + 1, 10, none⟩ (.slice Q n1 c1)).setCell ⟨w.heap.size + 1 + 1, 11, none⟩ (.slice G m d)).setCell ⟨w.heap.size + 1 + 1 + 1, 0, none⟩ (.slice A n c)).setCell ⟨w.heap.size + 1 + 1 + 1, 1, none⟩ (.int .i64 (a1 : Int))).setCell ⟨w.heap.size + 1 + 1 + 1, 2, none⟩ (.bool g1)) = W := ⟨_, rfl⟩
  have GG : Blk W6 (w.heap.size + 1 + 1 + 1) 117 #[.slice A n c, .int .i64 (a1 : Int), .bool g1] ∧ Blk W6 (w.heap.size + 1 + 1) 40 #[.int .u8 (k : Int), .int .u32 (id : Int), .int .u16 (code : Int), .bool last, .int .u64 (ep : Int), .int .u64 (fl : Int), .int .u64 (un : Int), .int .u64 (le : Int), .int .u64 (st : Int), .int .u64 ((v : Nat) : Int), .slice Q n1 c1, .slice G m d] ∧ Below w.heap.size w W6 := by
    rw [← hW]
    exact FF.out
  rw [hW]
  clear hW FF
  have f0 := GG.1.cell 0
  have f1 := GG.1.cell 1
  have f2 := GG.1.cell 2
  have h0 := GG.2.1.cell 0
  have h1 := GG.2.1.cell 1
  have h2 := GG.2.1.cell 2
  have h3 := GG.2.1.cell 3
  have h4 := GG.2.1.cell 4
  have h5 := GG.2.1.cell 5
  have h6 := GG.2.1.cell 6
  have h7 := GG.2.1.cell 7
  have h8 := GG.2.1.cell 8
  have h9 := GG.2.1.cell 9
  have h10 := GG.2.1.cell 10
  have h11 := GG.2.1.cell 11
  refine bodyPost_ret (v := .tuple #[.agg #[.int .u8 (k : Int), .int .u32 (id : Int), .int .u16 (code : Int), .bool last, .int .u64 (ep : Int), .int .u64 (fl : Int), .int .u64 (un : Int), .int .u64 (le : Int), .int .u64 (st : Int), .int .u64 ((v : Nat) : Int), .slice Q n1 c1, .slice G m d], .agg #[.slice A n c, .int .i64 (a1 : Int), .bool g1], .bool false]) ?_ rfl ⟨a1, g1, ha1, N1.out, rfl, GG.2.2.drew⟩
  simp [results, Tryz.results65, go_sem, f0, f1, f2, h0, h1, h2, h3, h4, h5, h6, h7, h8, h9, h10, h11]
end Go.Proofs.YtognlgklepgemaaGreat

namespace Go.Proofs.YtognlgklepgemaaGreat
open Go.ChangeShapes Go.WideShapes Go.ChangeAt Go.RowKit

theorem info8_row : (Tryz.prog.info? 93).map (fun i => (i.zero, i.size, i.bytes)) = some (some (.agg #[.string ⟨#[]⟩, .int .i64 0, .int .i64 0, .int .i64 0, .int .i64 0, .int .i64 0, .int .i64 0]), 7, 64) := by kernel_rfl
theorem info8_pane : (Tryz.prog.info? 90).map (fun i => (i.zero, i.size, i.bytes)) = some (some (.agg #[.string ⟨#[]⟩, .int .i64 0, .int .i64 0]), 3, 32) := by kernel_rfl
theorem rt_row {n c a B : Nat} {A : Option Addr} {b : List Nat} {f : Bool} {w : World} {pk : ByteArray} {ps pe rc rs rlo rhi : Int} (hb : Bytes w B A n b) (hB : B ≤ w.heap.size) (hn : n ≤ 1000000) (ha : a ≤ n) (hc : n ≤ c) (hp : (Rp.tRow (b.drop a, f)).1 = ⟨⟨pk, ps, pe⟩, ⟨rc, rs, rlo, rhi⟩⟩) :
    Calls Tryz.prog 82 #[.agg #[.slice A n c, .int .i64 (a : Int), .bool f]] w (RNx w n c A b (.agg #[.string pk, .int .i64 ps, .int .i64 pe, .int .i64 rc, .int .i64 rs, .int .i64 rlo, .int .i64 rhi]) (Rp.tRow (b.drop a, f)).2) := by
  have h := refTakeRow_any n c a B A b f w hb hB hn ha hc
  rw [hp] at h
  exact h
theorem own_set8 {w : World} {base e s n g : Nat} {v : Value} {xs : List Value} (h : w.ownsRow base e s v n xs) (hg : g < base) (i : Nat) (u : Value) : (w.setCell ⟨g, i, none⟩ u).ownsRow base e s v n xs :=
  ownsRow_setCell_other h (a := ⟨g, i, none⟩) (fun q => by have := (h.lt _ q).1; dsimp only at this; omega) u
theorem Held.grown8 {w W W' : World} {l : List (Nat × TypeId × Array Value)} {row : Option Nat} (h : Held w W l) (hg : W.grownBy W' row) (hr : ∀ k, row = some k → w.heap.size ≤ k ∧ ∀ x ∈ l, x.1 ≠ k) : Held w W' l :=
  ⟨h.1.trans ⟨hg.os, hg.tape, hg.output, hg.size, fun k hk => hg.block k (by have := h.1.size; omega) (fun e => by have := (hr k e.symm).1; omega)⟩, fun x hx => (hg.block x.1 (h.2 x hx).lt (fun e => (hr _ e.symm).2 x hx rfl)).trans (h.2 x hx)⟩
set_option maxRecDepth 100000 in
set_option maxHeartbeats 4000000 in
theorem refTakeRows_any (k id code : Nat) (last : Bool) (ep fl un le st ti : Nat) (G : Option Addr) (m d : Nat) (n c a B v : Nat) (A : Option Addr) (b : List Nat) (f : Bool) (w : World) (hb : Bytes w B A n b) (hB : B ≤ w.heap.size) (hn : n ≤ 1000000) (ha : a ≤ n) (hc : n ≤ c) (hv : Rp.vl (b.drop a, f) 1 = v) (hv2 : v < 256) :
    Calls Tryz.prog 65 #[.agg #[.int .u8 (k : Int), .int .u32 (id : Int), .int .u16 (code : Int), .bool last, .int .u64 (ep : Int), .int .u64 (fl : Int), .int .u64 (un : Int), .int .u64 (le : Int), .int .u64 (st : Int), .int .u64 (ti : Int), .slice none 0 0, .slice G m d], .int .u8 114, .agg #[.slice A n c, .int .i64 (a : Int), .bool f]] w fun e w' => ∃ a' g A' c' m', a' ≤ n ∧ (Rp.rList Rp.tRow v (Rp.nx (b.drop a, f) 1)).2 = (b.drop a', g) ∧ (Rp.rList Rp.tRow v (Rp.nx (b.drop a, f) 1)).1.length = m' ∧ e = .returned (.tuple #[.agg #[.int .u8 (k : Int), .int .u32 (id : Int), .int .u16 (code : Int), .bool last, .int .u64 (ep : Int), .int .u64 (fl : Int), .int .u64 (un : Int), .int .u64 (le : Int), .int .u64 (st : Int), .int .u64 (ti : Int), .slice A' m' c', .slice G m d], .agg #[.slice A n c, .int .i64 (a' : Int), .bool g], .bool false]) ∧ w'.ownsRow (w.heap.size + 4) 93 7 (.slice A' m' c') m' (rcells (Rp.rList Rp.tRow v (Rp.nx (b.drop a, f) 1)).1) ∧ Below w.heap.size w w' := by
  obtain ⟨i0, hi, hz0, hz1, hz2⟩ := info_parts info8_row
  have HI := Lib.hid (And.intro hi (And.intro hz0 (And.intro hz1 hz2)))
  clear hi hz0 hz1 hz2
  have HBY : Hid (∀ W, Below w.heap.size w W → Bytes W B A n b) := Lib.hid fun W hW => hb.below hW hB
  have HBS : Hid (∀ W, Below w.heap.size w W → B ≤ W.heap.size) := Lib.hid fun W hW => Nat.le_trans hB hW.size
  have S0 := Lib.hid (((((Held.start w).new #[.int .u8 (k : Int), .int .u32 (id : Int), .int .u16 (code : Int), .bool last, .int .u64 (ep : Int), .int .u64 (fl : Int), .int .u64 (un : Int), .int .u64 (le : Int), .int .u64 (st : Int), .int .u64 (ti : Int), .slice none 0 0, .slice G m d] 40).new #[.slice A n c, .int .i64 (a : Int), .bool f] 117).new #[.int .u8 0, .int .u32 0, .int .u16 0, .bool false, .int .u64 0, .int .u64 0, .int .u64 0, .int .u64 0, .int .u64 0, .int .u64 0, .slice none 0 0, .slice none 0 0] 40).new #[.slice none 0 0, .int .i64 0, .bool false] 117)
  simp only [World.size_alloc] at S0
  have HV := Lib.hid hv
  obtain ⟨s1, hs1⟩ : ∃ s, Rp.nx (b.drop a, f) 1 = s := ⟨_, rfl⟩
  have HS1 := Lib.hid hs1
  rw [hs1]
  clear hb hB hv hs1
  go_enter Tryz.func65, Tryz.ntmps65
  go_wp2_with fail
  obtain ⟨W0, hW0⟩ : ∃ W, (((w.alloc (.cells #[.int .u8 (k : Int), .int .u32 (id : Int), .int .u16 (code : Int), .bool last, .int .u64 (ep : Int), .int .u64 (fl : Int), .int .u64 (un : Int), .int .u64 (le : Int), .int .u64 (st : Int), .int .u64 (ti : Int), .slice none 0 0, .slice G m d] 40)).alloc (.cells #[.slice A n c, .int .i64 (a : Int), .bool f] 117)).alloc (.cells #[.int .u8 0, .int .u32 0, .int .u16 0, .bool false, .int .u64 0, .int .u64 0, .int .u64 0, .int .u64 0, .int .u64 0, .int .u64 0, .slice none 0 0, .slice none 0 0] 40)).alloc (.cells #[.slice none 0 0, .int .i64 0, .bool false] 117) = W := ⟨_, rfl⟩
  rw [hW0] at S0 ⊢
  clear hW0
  have S0 := Lib.hid (S0.out.sub8 (l' := [(w.heap.size + 1, 117, (#[.slice A n c, .int .i64 (a : Int), .bool f] : Array Value)), (w.heap.size, 40, (#[.int .u8 (k : Int), .int .u32 (id : Int), .int .u16 (code : Int), .bool last, .int .u64 (ep : Int), .int .u64 (fl : Int), .int .u64 (un : Int), .int .u64 (le : Int), .int .u64 (st : Int), .int .u64 (ti : Int), .slice none 0 0, .slice G m d] : Array Value)), (w.heap.size + 1 + 1, 40, (#[.int .u8 0, .int .u32 0, .int .u16 0, .bool false, .int .u64 0, .int .u64 0, .int .u64 0, .int .u64 0, .int .u64 0, .int .u64 0, .slice none 0 0, .slice none 0 0] : Array Value)), (w.heap.size + 1 + 1 + 1, 117, (#[.slice none 0 0, .int .i64 0, .bool false] : Array Value))]) (by intro x hx; simp only [List.mem_cons, List.not_mem_nil, or_false] at hx ⊢; rcases hx with h | h | h | h <;> simp [h]))
  refine (rt_take (c := c) 1 (HBY.out W0 S0.out.1) (HBS.out W0 S0.out.1) hn ha (by omega)).mono ?_
  rw [HV.out, HS1.out]
  rintro e w1 ⟨a1, g1, ha1, hst, rfl, b1⟩
  have N1 := Lib.hid hst
  have S1 := Lib.hid (S0.out.step b1)
  have hz1 : w.heap.size + 4 ≤ w1.heap.size := (S1.out.at_ (g := w.heap.size + 1 + 1 + 1) (t := 117) (cs := #[.slice none 0 0, .int .i64 0, .bool false]) (by simp)).lt
  clear b1 hst S0
  have kk := S1.out.at_ (List.mem_cons_self ..)
  have p0 := kk.cell 0
  have pf0 := kk.frozen 0
  have p1 := kk.cell 1
  have pf1 := kk.frozen 1
  have p2 := kk.cell 2
  have pf2 := kk.frozen 2
  clear kk
  go_wp2_with fail
  clear p0 pf0 p1 pf1 p2 pf2
  have s1' := S1.out.three8 (by omega) (by intro x hx; simp only [List.mem_cons, List.not_mem_nil, or_false] at hx; rcases hx with h | h | h <;> rw [h] <;> (dsimp only; omega)) (.slice A n c) (.int .i64 (a1 : Int)) (.bool g1)
  have hz1' : w.heap.size + 4 ≤ (((w1.setCell ⟨w.heap.size + 1, 0, none⟩ (.slice A n c)).setCell ⟨w.heap.size + 1, 1, none⟩ (.int .i64 (a1 : Int))).setCell ⟨w.heap.size + 1, 2, none⟩ (.bool g1)).heap.size := by simpa [World.setCell] using hz1
  obtain ⟨W1, hW⟩ : ∃ W, ((w1.setCell ⟨w.heap.size + 1, 0, none⟩ (.slice A n c)).setCell ⟨w.heap.size + 1, 1, none⟩ (.int .i64 (a1 : Int))).setCell ⟨w.heap.size + 1, 2, none⟩ (.bool g1) = W := ⟨_, rfl⟩
  rw [hW] at s1' hz1' ⊢
  have Sx := Lib.hid s1'
  clear hW s1' S1 hz1
  go_loopw [10] (fun i wr => ∃ (j a' : Nat) (A3 : Option Addr) (c3 : Nat), j ≤ v ∧ i = .int .u64 (j : Int) ∧ a' ≤ n ∧ ∃ g' L, Rp.rList Rp.tRow j s1 = (L, (b.drop a', g')) ∧ L.length = j ∧ wr.ownsRow (w.heap.size + 4) 93 7 (.slice A3 j c3) j (rcells L) ∧ Held w wr [(w.heap.size + 1, 117, (#[.slice A n c, .int .i64 (a' : Int), .bool g'] : Array Value)), (w.heap.size, 40, (#[.int .u8 (k : Int), .int .u32 (id : Int), .int .u16 (code : Int), .bool last, .int .u64 (ep : Int), .int .u64 (fl : Int), .int .u64 (un : Int), .int .u64 (le : Int), .int .u64 (st : Int), .int .u64 (ti : Int), .slice A3 j c3, .slice G m d] : Array Value)), (w.heap.size + 1 + 1, 40, (#[.int .u8 0, .int .u32 0, .int .u16 0, .bool false, .int .u64 0, .int .u64 0, .int .u64 0, .int .u64 0, .int .u64 0, .int .u64 0, .slice none 0 0, .slice none 0 0] : Array Value)), (w.heap.size + 1 + 1 + 1, 117, (#[.slice none 0 0, .int .i64 0, .bool false] : Array Value))]) (fun i _ => v - (intOf i).toNat)
  case atStart => exact ⟨0, a1, none, 0, by omega, rfl, ha1, g1, [], (by rw [N1.out]; rfl), rfl, own_nil _ _ _ _, Sx.out⟩
  case round =>
    obtain ⟨j, a2, A3, c3, hj, rfl, ha2, g2, L, hL, hlen, hown, hheld⟩ := hrel
    have HS := Lib.hid hheld
    have HO := Lib.hid hown
    have HL := Lib.hid (And.intro hL hlen)
    clear hheld hown hL hlen
    by_cases hgo : j < v ∧ g2 = false
    · obtain ⟨hjv, rfl⟩ := hgo
      have i1 : (j : Int) < v := by omega
      have kk := HS.out.at_ (List.mem_cons_self ..)
      have p0 := kk.cell 0
      have pf0 := kk.frozen 0
      have p1 := kk.cell 1
      have pf1 := kk.frozen 1
      have p2 := kk.cell 2
      have pf2 := kk.frozen 2
      clear kk
      obtain ⟨⟨⟨pk, ps, pe⟩, ⟨rc, rs, rlo, rhi⟩⟩, hrow⟩ : ∃ x : Rw, (Rp.tRow (b.drop a2, false)).1 = x := ⟨_, rfl⟩
      have hz2 : w.heap.size + 4 ≤ wr.heap.size := (HS.out.at_ (g := w.heap.size + 1 + 1 + 1) (t := 117) (cs := #[.slice none 0 0, .int .i64 0, .bool false]) (by simp)).lt
      go_wp2_with fail
      clear p0 pf0 p1 pf1 p2 pf2
      refine (rt_row (HBY.out wr HS.out.1) (HBS.out wr HS.out.1) hn ha2 hc hrow).mono ?_
      rintro e w2 ⟨a3, g3, ha3, hs3, rfl, b2⟩
      have HN := Lib.hid (And.intro hs3 hrow)
      have S2 := HS.out.step b2
      have O2 := own_below HO.out b2
      have hz3 : w.heap.size + 4 ≤ w2.heap.size := Nat.le_trans hz2 b2.size
      have S3 := (S2.new #[.string pk, .int .i64 ps, .int .i64 pe, .int .i64 rc, .int .i64 rs, .int .i64 rlo, .int .i64 rhi] 93).new #[.slice A n c, .int .i64 (a3 : Int), .bool g3] 117
      have O3 := own_below O2 (((Below.refl _ _).alloc (Nat.le_refl _) (.cells #[.string pk, .int .i64 ps, .int .i64 pe, .int .i64 rc, .int .i64 rs, .int .i64 rlo, .int .i64 rhi] 93)).alloc (by simp) (.cells #[.slice A n c, .int .i64 (a3 : Int), .bool g3] 117))
      clear b2 hs3 hrow
      simp only [World.size_alloc] at S3
      go_upto_region 17 with (fail)
      obtain ⟨W3, hW⟩ : ∃ W, (w2.alloc (.cells #[.string pk, .int .i64 ps, .int .i64 pe, .int .i64 rc, .int .i64 rs, .int .i64 rlo, .int .i64 rhi] 93)).alloc (.cells #[.slice A n c, .int .i64 (a3 : Int), .bool g3] 117) = W := ⟨_, rfl⟩
      rw [hW] at S3 O3 ⊢
      have hz4 : w2.heap.size + 2 ≤ W3.heap.size := by rw [← hW]; simp
      clear hW
      have S4 : Hid (Held w (W3.alloc (.cells #[.string pk, .int .i64 ps, .int .i64 pe, .int .i64 rc, .int .i64 rs, .int .i64 rlo, .int .i64 rhi] 93)) [(w2.heap.size + 1, 117, (#[.slice A n c, .int .i64 (a3 : Int), .bool g3] : Array Value)), (w2.heap.size, 93, (#[.string pk, .int .i64 ps, .int .i64 pe, .int .i64 rc, .int .i64 rs, .int .i64 rlo, .int .i64 rhi] : Array Value)), (w.heap.size + 1, 117, (#[.slice A n c, .int .i64 (a2 : Int), .bool false] : Array Value)), (w.heap.size, 40, (#[.int .u8 (k : Int), .int .u32 (id : Int), .int .u16 (code : Int), .bool last, .int .u64 (ep : Int), .int .u64 (fl : Int), .int .u64 (un : Int), .int .u64 (le : Int), .int .u64 (st : Int), .int .u64 (ti : Int), .slice A3 j c3, .slice G m d] : Array Value)), (w.heap.size + 1 + 1, 40, (#[.int .u8 0, .int .u32 0, .int .u16 0, .bool false, .int .u64 0, .int .u64 0, .int .u64 0, .int .u64 0, .int .u64 0, .int .u64 0, .slice none 0 0, .slice none 0 0] : Array Value)), (w.heap.size + 1 + 1 + 1, 117, (#[.slice none 0 0, .int .i64 0, .bool false] : Array Value))]) := Lib.hid (S3.step ((Below.refl _ _).alloc (Nat.le_refl _) _))
      have O4 := Lib.hid (own_below O3 ((Below.refl _ _).alloc (Nat.le_refl _) (.cells #[.string pk, .int .i64 ps, .int .i64 pe, .int .i64 rc, .int .i64 rs, .int .i64 rlo, .int .i64 rhi] 93)))
      have HK := Lib.hid (fun k hk => (O2.lt k hk).2)
      have kk := S3.at_ (List.mem_cons_of_mem _ (List.mem_cons_self ..))
      have e0 := kk.cell 0
      have e1 := kk.cell 1
      have e2 := kk.cell 2
      have e3 := kk.cell 3
      have e4 := kk.cell 4
      have e5 := kk.cell 5
      have e6 := kk.cell 6
      clear kk
      have kk := S3.at_ (List.mem_cons_of_mem _ (List.mem_cons_of_mem _ (List.mem_cons_of_mem _ (List.mem_cons_self ..))))
      have q0 := kk.cell 0
      have q1 := kk.cell 1
      have q2 := kk.cell 2
      have q3 := kk.cell 3
      have q4 := kk.cell 4
      have q5 := kk.cell 5
      have q6 := kk.cell 6
      have q7 := kk.cell 7
      have q8 := kk.cell 8
      have q9 := kk.cell 9
      have q10 := kk.cell 10
      have q11 := kk.cell 11
      clear kk
      clear S3 O3 S2 O2
      go_wp2_with (at_builtin; refine wpList_append_own _ rfl _ _ 37 rfl (w.heap.size + 4) 93 i0 (.agg #[.string ⟨#[]⟩, .int .i64 0, .int .i64 0, .int .i64 0, .int .i64 0, .int .i64 0, .int .i64 0]) 7 64 Tryz.underlying37 HI.out.1 HI.out.2.1 HI.out.2.2.1 HI.out.2.2.2 rfl (by decide) _ j _ rfl O4.out ⟨W3.heap.size, 0, none⟩ 1 1 [.string pk, .int .i64 ps, .int .i64 pe, .int .i64 rc, .int .i64 rs, .int .i64 rlo, .int .i64 rhi] rfl rfl (cells7 W3 _ _ _ _ _ _ _ _) (by simp [Value.oneCell']) (by unfold maxLen; omega) (by omega) (by simp; omega) ?_; intro v' w4 hown hgrow _; obtain ⟨A4, c4, rfl⟩ := own_slice hown; have S5 : Hid (Held w w4 [(w2.heap.size + 1, 117, (#[.slice A n c, .int .i64 (a3 : Int), .bool g3] : Array Value)), (w2.heap.size, 93, (#[.string pk, .int .i64 ps, .int .i64 pe, .int .i64 rc, .int .i64 rs, .int .i64 rlo, .int .i64 rhi] : Array Value)), (w.heap.size + 1, 117, (#[.slice A n c, .int .i64 (a2 : Int), .bool false] : Array Value)), (w.heap.size, 40, (#[.int .u8 (k : Int), .int .u32 (id : Int), .int .u16 (code : Int), .bool last, .int .u64 (ep : Int), .int .u64 (fl : Int), .int .u64 (un : Int), .int .u64 (le : Int), .int .u64 (st : Int), .int .u64 (ti : Int), .slice A3 j c3, .slice G m d] : Array Value)), (w.heap.size + 1 + 1, 40, (#[.int .u8 0, .int .u32 0, .int .u16 0, .bool false, .int .u64 0, .int .u64 0, .int .u64 0, .int .u64 0, .int .u64 0, .int .u64 0, .slice none 0 0, .slice none 0 0] : Array Value)), (w.heap.size + 1 + 1 + 1, 117, (#[.slice none 0 0, .int .i64 0, .bool false] : Array Value))]) := Lib.hid (S4.out.grown8 hgrow (fun k hk => ⟨(by have := (O4.out.lt k hk).1; omega), (fun x hx => by have h1 := (O4.out.lt k hk).1; have h2 := HK.out k hk; simp only [List.mem_cons, List.not_mem_nil, or_false] at hx; rcases hx with h | h | h | h | h | h <;> rw [h] <;> (dsimp only; omega))⟩)); have O5 := Lib.hid hown; have kk := S5.out.at_ (List.mem_cons_self ..); have t0 := kk.cell 0; have t1 := kk.cell 1; have t2 := kk.cell 2; clear kk; have kk := S5.out.at_ (List.mem_cons_of_mem _ (List.mem_cons_of_mem _ (List.mem_cons_of_mem _ (List.mem_cons_self ..)))); have u10 := kk.cell 10; have uf10 := kk.frozen 10; clear kk; have kk := S5.out.at_ (List.mem_cons_of_mem _ (List.mem_cons_of_mem _ (List.mem_cons_self ..))); have p0 := kk.cell 0; have p1 := kk.cell 1; have p2 := kk.cell 2; have pf0 := kk.frozen 0; have pf1 := kk.frozen 1; have pf2 := kk.frozen 2; clear kk hown hgrow)
      have T0 := S5.out.sub8 (l' := [(w.heap.size, 40, (#[.int .u8 (k : Int), .int .u32 (id : Int), .int .u16 (code : Int), .bool last, .int .u64 (ep : Int), .int .u64 (fl : Int), .int .u64 (un : Int), .int .u64 (le : Int), .int .u64 (st : Int), .int .u64 (ti : Int), .slice A3 j c3, .slice G m d] : Array Value)), (w.heap.size + 1, 117, (#[.slice A n c, .int .i64 (a2 : Int), .bool false] : Array Value)), (w.heap.size + 1 + 1, 40, (#[.int .u8 0, .int .u32 0, .int .u16 0, .bool false, .int .u64 0, .int .u64 0, .int .u64 0, .int .u64 0, .int .u64 0, .int .u64 0, .slice none 0 0, .slice none 0 0] : Array Value)), (w.heap.size + 1 + 1 + 1, 117, (#[.slice none 0 0, .int .i64 0, .bool false] : Array Value))]) (by intro x hx; simp only [List.mem_cons, List.not_mem_nil, or_false] at hx ⊢; rcases hx with h | h | h | h <;> simp [h])
      have T1 := T0.put8 (Nat.le_refl _) (by intro x hx; simp only [List.mem_cons, List.not_mem_nil, or_false] at hx; rcases hx with h | h | h <;> rw [h] <;> (dsimp only; omega)) 10 (.slice A4 (j + 1) c4)
      have T2 := T1.sub8 (l' := [(w.heap.size + 1, 117, (#[.slice A n c, .int .i64 (a2 : Int), .bool false] : Array Value)), (w.heap.size, 40, (#[.int .u8 (k : Int), .int .u32 (id : Int), .int .u16 (code : Int), .bool last, .int .u64 (ep : Int), .int .u64 (fl : Int), .int .u64 (un : Int), .int .u64 (le : Int), .int .u64 (st : Int), .int .u64 (ti : Int), .slice A4 (j + 1) c4, .slice G m d] : Array Value)), (w.heap.size + 1 + 1, 40, (#[.int .u8 0, .int .u32 0, .int .u16 0, .bool false, .int .u64 0, .int .u64 0, .int .u64 0, .int .u64 0, .int .u64 0, .int .u64 0, .slice none 0 0, .slice none 0 0] : Array Value)), (w.heap.size + 1 + 1 + 1, 117, (#[.slice none 0 0, .int .i64 0, .bool false] : Array Value))]) (by intro x hx; simp only [List.mem_cons, List.not_mem_nil, or_false] at hx ⊢; rcases hx with h | h | h | h <;> simp [h])
      have T3 := T2.three8 (by omega) (by intro x hx; simp only [List.mem_cons, List.not_mem_nil, or_false] at hx; rcases hx with h | h | h <;> rw [h] <;> (dsimp only; omega)) (.slice A n c) (.int .i64 (a3 : Int)) (.bool g3)
      have O6 := own_set8 (own_set8 (own_set8 (own_set8 O5.out (g := w.heap.size) (by omega) 10 (.slice A4 (j + 1) c4)) (g := w.heap.size + 1) (by omega) 0 (.slice A n c)) (g := w.heap.size + 1) (by omega) 1 (.int .i64 (a3 : Int))) (g := w.heap.size + 1) (by omega) 2 (.bool g3)
      have hsn := Rp.rList_snoc (f := Rp.tRow) j s1 (by rw [HL.out.1])
      rw [HL.out.1, HN.out.2, HN.out.1] at hsn
      refine ⟨⟨j + 1, a3, A4, c4, by omega, by go_num, ha3, g3, _, hsn, by rw [List.length_append, HL.out.2]; rfl, ?_, T3⟩, by simp [intOf]; omega⟩
      rw [rcells_snoc]
      exact O6
    · have hfin : Rp.rList Rp.tRow v s1 = (L, (b.drop a2, g2)) := by
        rcases Nat.lt_or_ge j v with h | h
        · have hg : g2 = true := by
            cases g2
            · exact absurd ⟨h, rfl⟩ hgo
            · rfl
          subst hg
          have h2 := Rp.rList_stop (f := Rp.tRow) j (v - j) s1 (by rw [HL.out.1])
          rw [show j + (v - j) = v by omega] at h2
          rw [h2, HL.out.1]
        · obtain rfl : j = v := by omega
          exact HL.out.1
      have HF := Lib.hid hfin
      have hz2 : w.heap.size + 4 ≤ wr.heap.size := (HS.out.at_ (g := w.heap.size + 1 + 1 + 1) (t := 117) (cs := #[.slice none 0 0, .int .i64 0, .bool false]) (by simp)).lt
      clear hfin
      by_cases hjv : j < v
      · have hg : g2 = true := by
          cases g2
          · exact absurd ⟨hjv, rfl⟩ hgo
          · rfl
        subst hg
        have i1 : (j : Int) < v := by omega
        have kk := HS.out.at_ (List.mem_cons_self ..)
        have p0 := kk.cell 0
        have p1 := kk.cell 1
        have p2 := kk.cell 2
        clear kk
        have kk := HS.out.at_ (List.mem_cons_of_mem _ (List.mem_cons_self ..))
        have q0 := kk.cell 0
        have q1 := kk.cell 1
        have q2 := kk.cell 2
        have q3 := kk.cell 3
        have q4 := kk.cell 4
        have q5 := kk.cell 5
        have q6 := kk.cell 6
        have q7 := kk.cell 7
        have q8 := kk.cell 8
        have q9 := kk.cell 9
        have q10 := kk.cell 10
        have q11 := kk.cell 11
        clear kk
        have kk := HS.out.at_ (List.mem_cons_of_mem _ (List.mem_cons_of_mem _ (List.mem_cons_self ..)))
        have r0 := kk.cell 0
        have rf0 := kk.frozen 0
        have r1 := kk.cell 1
        have rf1 := kk.frozen 1
        have r2 := kk.cell 2
        have rf2 := kk.frozen 2
        have r3 := kk.cell 3
        have rf3 := kk.frozen 3
        have r4 := kk.cell 4
        have rf4 := kk.frozen 4
        have r5 := kk.cell 5
        have rf5 := kk.frozen 5
        have r6 := kk.cell 6
        have rf6 := kk.frozen 6
        have r7 := kk.cell 7
        have rf7 := kk.frozen 7
        have r8 := kk.cell 8
        have rf8 := kk.frozen 8
        have r9 := kk.cell 9
        have rf9 := kk.frozen 9
        have r10 := kk.cell 10
        have rf10 := kk.frozen 10
        have r11 := kk.cell 11
        have rf11 := kk.frozen 11
        clear kk
        have kk := HS.out.at_ (List.mem_cons_of_mem _ (List.mem_cons_of_mem _ (List.mem_cons_of_mem _ (List.mem_cons_self ..))))
        have s0 := kk.cell 0
        have sf0 := kk.frozen 0
        have s1 := kk.cell 1
        have sf1 := kk.frozen 1
        have s2 := kk.cell 2
        have sf2 := kk.frozen 2
        clear kk
        go_wp2_with fail
        go_region
        go_wp2_with fail
        clear p0 p1 p2 q0 q1 q2 q3 q4 q5 q6 q7 q8 q9 q10 q11 r0 rf0 r1 rf1 r2 rf2 r3 rf3 r4 rf4 r5 rf5 r6 rf6 r7 rf7 r8 rf8 r9 rf9 r10 rf10 r11 rf11 s0 sf0 s1 sf1 s2 sf2
        have T0 := HS.out.sub8 (l' := [(w.heap.size + 1 + 1, 40, (#[.int .u8 0, .int .u32 0, .int .u16 0, .bool false, .int .u64 0, .int .u64 0, .int .u64 0, .int .u64 0, .int .u64 0, .int .u64 0, .slice none 0 0, .slice none 0 0] : Array Value)), (w.heap.size + 1 + 1 + 1, 117, (#[.slice none 0 0, .int .i64 0, .bool false] : Array Value)), (w.heap.size, 40, (#[.int .u8 (k : Int), .int .u32 (id : Int), .int .u16 (code : Int), .bool last, .int .u64 (ep : Int), .int .u64 (fl : Int), .int .u64 (un : Int), .int .u64 (le : Int), .int .u64 (st : Int), .int .u64 (ti : Int), .slice A3 j c3, .slice G m d] : Array Value)), (w.heap.size + 1, 117, (#[.slice A n c, .int .i64 (a2 : Int), .bool true] : Array Value))]) (by intro x hx; simp only [List.mem_cons, List.not_mem_nil, or_false] at hx ⊢; rcases hx with h | h | h | h <;> simp [h])
        have T1 := T0.twelve8 (by omega) (by intro x hx; simp only [List.mem_cons, List.not_mem_nil, or_false] at hx; rcases hx with h | h | h <;> rw [h] <;> (dsimp only; omega)) (.int .u8 (k : Int)) (.int .u32 (id : Int)) (.int .u16 (code : Int)) (.bool last) (.int .u64 (ep : Int)) (.int .u64 (fl : Int)) (.int .u64 (un : Int)) (.int .u64 (le : Int)) (.int .u64 (st : Int)) (.int .u64 (ti : Int)) (.slice A3 j c3) (.slice G m d)
        have T2 := T1.sub8 (l' := [(w.heap.size + 1 + 1 + 1, 117, (#[.slice none 0 0, .int .i64 0, .bool false] : Array Value)), (w.heap.size + 1 + 1, 40, (#[.int .u8 (k : Int), .int .u32 (id : Int), .int .u16 (code : Int), .bool last, .int .u64 (ep : Int), .int .u64 (fl : Int), .int .u64 (un : Int), .int .u64 (le : Int), .int .u64 (st : Int), .int .u64 (ti : Int), .slice A3 j c3, .slice G m d] : Array Value)), (w.heap.size, 40, (#[.int .u8 (k : Int), .int .u32 (id : Int), .int .u16 (code : Int), .bool last, .int .u64 (ep : Int), .int .u64 (fl : Int), .int .u64 (un : Int), .int .u64 (le : Int), .int .u64 (st : Int), .int .u64 (ti : Int), .slice A3 j c3, .slice G m d] : Array Value)), (w.heap.size + 1, 117, (#[.slice A n c, .int .i64 (a2 : Int), .bool true] : Array Value))]) (by intro x hx; simp only [List.mem_cons, List.not_mem_nil, or_false] at hx ⊢; rcases hx with h | h | h | h <;> simp [h])
        have T3 := T2.three8 (by omega) (by intro x hx; simp only [List.mem_cons, List.not_mem_nil, or_false] at hx; rcases hx with h | h | h <;> rw [h] <;> (dsimp only; omega)) (.slice A n c) (.int .i64 (a2 : Int)) (.bool true)
        have O6 : ((((((((((((((((wr.setCell ⟨w.heap.size + 1 + 1, 0, none⟩ (.int .u8 (k : Int))).setCell ⟨w.heap.size + 1 + 1, 1, none⟩ (.int .u32 (id : Int))).setCell ⟨w.heap.size + 1 + 1, 2, none⟩ (.int .u16 (code : Int))).setCell ⟨w.heap.size + 1 + 1, 3, none⟩ (.bool last)).setCell ⟨w.heap.size + 1 + 1, 4, none⟩ (.int .u64 (ep : Int))).setCell ⟨w.heap.size + 1 + 1, 5, none⟩ (.int .u64 (fl : Int))).setCell ⟨w.heap.size + 1 + 1, 6, none⟩ (.int .u64 (un : Int))).setCell ⟨w.heap.size + 1 + 1, 7, none⟩ (.int .u64 (le : Int))).setCell ⟨w.heap.size + 1 + 1, 8, none⟩ (.int .u64 (st : Int))).setCell ⟨w.heap.size + 1 + 1, 9, none⟩ (.int .u64 (ti : Int))).setCell ⟨w.heap.size + 1 + 1, 10, none⟩ (.slice A3 j c3)).setCell ⟨w.heap.size + 1 + 1, 11, none⟩ (.slice G m d)).setCell ⟨w.heap.size + 1 + 1 + 1, 0, none⟩ (.slice A n c)).setCell ⟨w.heap.size + 1 + 1 + 1, 1, none⟩ (.int .i64 (a2 : Int))).setCell ⟨w.heap.size + 1 + 1 + 1, 2, none⟩ (.bool true))).ownsRow (w.heap.size + 4) 93 7 (.slice A3 j c3) j (rcells L) := by
          repeat (with_reducible refine own_set8 ?_ (by omega) _ _)
          exact HO.out
        have FF := Lib.hid (And.intro (T3.at_ (List.mem_cons_self ..)) (And.intro (T3.at_ (List.mem_cons_of_mem _ (List.mem_cons_self ..))) (And.intro T3.1 O6)))
        clear T0 T1 T2 T3 O6
        obtain ⟨W6, hW⟩ : ∃ W, (((((((((((((((wr.setCell ⟨w.heap.size + 1 + 1, 0, none⟩ (.int .u8 (k : Int))).setCell ⟨w.heap.size + 1 + 1, 1, none⟩ (.int .u32 (id : Int))).setCell ⟨w.heap.size + 1 + 1, 2, none⟩ (.int .u16 (code : Int))).setCell ⟨w.heap.size + 1 + 1, 3, none⟩ (.bool last)).setCell ⟨w.heap.size + 1 + 1, 4, none⟩ (.int .u64 (ep : Int))).setCell ⟨w.heap.size + 1 + 1, 5, none⟩ (.int .u64 (fl : Int))).setCell ⟨w.heap.size + 1 + 1, 6, none⟩ (.int .u64 (un : Int))).setCell ⟨w.heap.size + 1 + 1, 7, none⟩ (.int .u64 (le : Int))).setCell ⟨w.heap.size + 1 + 1, 8, none⟩ (.int .u64 (st : Int))).setCell ⟨w.heap.size + 1 + 1, 9, none⟩ (.int .u64 (ti : Int))).setCell ⟨w.heap.size + 1 + 1, 10, none⟩ (.slice A3 j c3)).setCell ⟨w.heap.size + 1 + 1, 11, none⟩ (.slice G m d)).setCell ⟨w.heap.size + 1 + 1 + 1, 0, none⟩ (.slice A n c)).setCell ⟨w.heap.size + 1 + 1 + 1, 1, none⟩ (.int .i64 (a2 : Int))).setCell ⟨w.heap.size + 1 + 1 + 1, 2, none⟩ (.bool true)) = W := ⟨_, rfl⟩
        have GG : Blk W6 (w.heap.size + 1 + 1 + 1) 117 #[.slice A n c, .int .i64 (a2 : Int), .bool true] ∧ Blk W6 (w.heap.size + 1 + 1) 40 #[.int .u8 (k : Int), .int .u32 (id : Int), .int .u16 (code : Int), .bool last, .int .u64 (ep : Int), .int .u64 (fl : Int), .int .u64 (un : Int), .int .u64 (le : Int), .int .u64 (st : Int), .int .u64 (ti : Int), .slice A3 j c3, .slice G m d] ∧ Below w.heap.size w W6 ∧ W6.ownsRow (w.heap.size + 4) 93 7 (.slice A3 j c3) j (rcells L) := by
          rw [← hW]
          exact FF.out
        rw [hW]
        clear hW FF
        have f0 := GG.1.cell 0
        have f1 := GG.1.cell 1
        have f2 := GG.1.cell 2
        have h0 := GG.2.1.cell 0
        have h1 := GG.2.1.cell 1
        have h2 := GG.2.1.cell 2
        have h3 := GG.2.1.cell 3
        have h4 := GG.2.1.cell 4
        have h5 := GG.2.1.cell 5
        have h6 := GG.2.1.cell 6
        have h7 := GG.2.1.cell 7
        have h8 := GG.2.1.cell 8
        have h9 := GG.2.1.cell 9
        have h10 := GG.2.1.cell 10
        have h11 := GG.2.1.cell 11
        refine bodyPost_ret (v := .tuple #[.agg #[.int .u8 (k : Int), .int .u32 (id : Int), .int .u16 (code : Int), .bool last, .int .u64 (ep : Int), .int .u64 (fl : Int), .int .u64 (un : Int), .int .u64 (le : Int), .int .u64 (st : Int), .int .u64 (ti : Int), .slice A3 j c3, .slice G m d], .agg #[.slice A n c, .int .i64 (a2 : Int), .bool true], .bool false]) ?_ rfl ⟨a2, true, A3, c3, j, ha2, by rw [HF.out], by rw [HF.out]; exact HL.out.2, rfl, by rw [HF.out]; exact own_below GG.2.2.2 (Below.refl _ _).drew, GG.2.2.1.drew⟩
        simp [results, Tryz.results65, go_sem, f0, f1, f2, h0, h1, h2, h3, h4, h5, h6, h7, h8, h9, h10, h11]
      · have i1 : ¬ (j : Int) < v := by omega
        have kk := HS.out.at_ (List.mem_cons_self ..)
        have p0 := kk.cell 0
        have p1 := kk.cell 1
        have p2 := kk.cell 2
        clear kk
        have kk := HS.out.at_ (List.mem_cons_of_mem _ (List.mem_cons_self ..))
        have q0 := kk.cell 0
        have q1 := kk.cell 1
        have q2 := kk.cell 2
        have q3 := kk.cell 3
        have q4 := kk.cell 4
        have q5 := kk.cell 5
        have q6 := kk.cell 6
        have q7 := kk.cell 7
        have q8 := kk.cell 8
        have q9 := kk.cell 9
        have q10 := kk.cell 10
        have q11 := kk.cell 11
        clear kk
        have kk := HS.out.at_ (List.mem_cons_of_mem _ (List.mem_cons_of_mem _ (List.mem_cons_self ..)))
        have r0 := kk.cell 0
        have rf0 := kk.frozen 0
        have r1 := kk.cell 1
        have rf1 := kk.frozen 1
        have r2 := kk.cell 2
        have rf2 := kk.frozen 2
        have r3 := kk.cell 3
        have rf3 := kk.frozen 3
        have r4 := kk.cell 4
        have rf4 := kk.frozen 4
        have r5 := kk.cell 5
        have rf5 := kk.frozen 5
        have r6 := kk.cell 6
        have rf6 := kk.frozen 6
        have r7 := kk.cell 7
        have rf7 := kk.frozen 7
        have r8 := kk.cell 8
        have rf8 := kk.frozen 8
        have r9 := kk.cell 9
        have rf9 := kk.frozen 9
        have r10 := kk.cell 10
        have rf10 := kk.frozen 10
        have r11 := kk.cell 11
        have rf11 := kk.frozen 11
        clear kk
        have kk := HS.out.at_ (List.mem_cons_of_mem _ (List.mem_cons_of_mem _ (List.mem_cons_of_mem _ (List.mem_cons_self ..))))
        have s0 := kk.cell 0
        have sf0 := kk.frozen 0
        have s1 := kk.cell 1
        have sf1 := kk.frozen 1
        have s2 := kk.cell 2
        have sf2 := kk.frozen 2
        clear kk
        go_wp2_with fail
        go_region
        go_wp2_with fail
        clear p0 p1 p2 q0 q1 q2 q3 q4 q5 q6 q7 q8 q9 q10 q11 r0 rf0 r1 rf1 r2 rf2 r3 rf3 r4 rf4 r5 rf5 r6 rf6 r7 rf7 r8 rf8 r9 rf9 r10 rf10 r11 rf11 s0 sf0 s1 sf1 s2 sf2
        have T0 := HS.out.sub8 (l' := [(w.heap.size + 1 + 1, 40, (#[.int .u8 0, .int .u32 0, .int .u16 0, .bool false, .int .u64 0, .int .u64 0, .int .u64 0, .int .u64 0, .int .u64 0, .int .u64 0, .slice none 0 0, .slice none 0 0] : Array Value)), (w.heap.size + 1 + 1 + 1, 117, (#[.slice none 0 0, .int .i64 0, .bool false] : Array Value)), (w.heap.size, 40, (#[.int .u8 (k : Int), .int .u32 (id : Int), .int .u16 (code : Int), .bool last, .int .u64 (ep : Int), .int .u64 (fl : Int), .int .u64 (un : Int), .int .u64 (le : Int), .int .u64 (st : Int), .int .u64 (ti : Int), .slice A3 j c3, .slice G m d] : Array Value)), (w.heap.size + 1, 117, (#[.slice A n c, .int .i64 (a2 : Int), .bool g2] : Array Value))]) (by intro x hx; simp only [List.mem_cons, List.not_mem_nil, or_false] at hx ⊢; rcases hx with h | h | h | h <;> simp [h])
        have T1 := T0.twelve8 (by omega) (by intro x hx; simp only [List.mem_cons, List.not_mem_nil, or_false] at hx; rcases hx with h | h | h <;> rw [h] <;> (dsimp only; omega)) (.int .u8 (k : Int)) (.int .u32 (id : Int)) (.int .u16 (code : Int)) (.bool last) (.int .u64 (ep : Int)) (.int .u64 (fl : Int)) (.int .u64 (un : Int)) (.int .u64 (le : Int)) (.int .u64 (st : Int)) (.int .u64 (ti : Int)) (.slice A3 j c3) (.slice G m d)
        have T2 := T1.sub8 (l' := [(w.heap.size + 1 + 1 + 1, 117, (#[.slice none 0 0, .int .i64 0, .bool false] : Array Value)), (w.heap.size + 1 + 1, 40, (#[.int .u8 (k : Int), .int .u32 (id : Int), .int .u16 (code : Int), .bool last, .int .u64 (ep : Int), .int .u64 (fl : Int), .int .u64 (un : Int), .int .u64 (le : Int), .int .u64 (st : Int), .int .u64 (ti : Int), .slice A3 j c3, .slice G m d] : Array Value)), (w.heap.size, 40, (#[.int .u8 (k : Int), .int .u32 (id : Int), .int .u16 (code : Int), .bool last, .int .u64 (ep : Int), .int .u64 (fl : Int), .int .u64 (un : Int), .int .u64 (le : Int), .int .u64 (st : Int), .int .u64 (ti : Int), .slice A3 j c3, .slice G m d] : Array Value)), (w.heap.size + 1, 117, (#[.slice A n c, .int .i64 (a2 : Int), .bool g2] : Array Value))]) (by intro x hx; simp only [List.mem_cons, List.not_mem_nil, or_false] at hx ⊢; rcases hx with h | h | h | h <;> simp [h])
        have T3 := T2.three8 (by omega) (by intro x hx; simp only [List.mem_cons, List.not_mem_nil, or_false] at hx; rcases hx with h | h | h <;> rw [h] <;> (dsimp only; omega)) (.slice A n c) (.int .i64 (a2 : Int)) (.bool g2)
        have O6 : ((((((((((((((((wr.setCell ⟨w.heap.size + 1 + 1, 0, none⟩ (.int .u8 (k : Int))).setCell ⟨w.heap.size + 1 + 1, 1, none⟩ (.int .u32 (id : Int))).setCell ⟨w.heap.size + 1 + 1, 2, none⟩ (.int .u16 (code : Int))).setCell ⟨w.heap.size + 1 + 1, 3, none⟩ (.bool last)).setCell ⟨w.heap.size + 1 + 1, 4, none⟩ (.int .u64 (ep : Int))).setCell ⟨w.heap.size + 1 + 1, 5, none⟩ (.int .u64 (fl : Int))).setCell ⟨w.heap.size + 1 + 1, 6, none⟩ (.int .u64 (un : Int))).setCell ⟨w.heap.size + 1 + 1, 7, none⟩ (.int .u64 (le : Int))).setCell ⟨w.heap.size + 1 + 1, 8, none⟩ (.int .u64 (st : Int))).setCell ⟨w.heap.size + 1 + 1, 9, none⟩ (.int .u64 (ti : Int))).setCell ⟨w.heap.size + 1 + 1, 10, none⟩ (.slice A3 j c3)).setCell ⟨w.heap.size + 1 + 1, 11, none⟩ (.slice G m d)).setCell ⟨w.heap.size + 1 + 1 + 1, 0, none⟩ (.slice A n c)).setCell ⟨w.heap.size + 1 + 1 + 1, 1, none⟩ (.int .i64 (a2 : Int))).setCell ⟨w.heap.size + 1 + 1 + 1, 2, none⟩ (.bool g2))).ownsRow (w.heap.size + 4) 93 7 (.slice A3 j c3) j (rcells L) := by
          repeat (with_reducible refine own_set8 ?_ (by omega) _ _)
          exact HO.out
        have FF := Lib.hid (And.intro (T3.at_ (List.mem_cons_self ..)) (And.intro (T3.at_ (List.mem_cons_of_mem _ (List.mem_cons_self ..))) (And.intro T3.1 O6)))
        clear T0 T1 T2 T3 O6
        obtain ⟨W6, hW⟩ : ∃ W, (((((((((((((((wr.setCell ⟨w.heap.size + 1 + 1, 0, none⟩ (.int .u8 (k : Int))).setCell ⟨w.heap.size + 1 + 1, 1, none⟩ (.int .u32 (id : Int))).setCell ⟨w.heap.size + 1 + 1, 2, none⟩ (.int .u16 (code : Int))).setCell ⟨w.heap.size + 1 + 1, 3, none⟩ (.bool last)).setCell ⟨w.heap.size + 1 + 1, 4, none⟩ (.int .u64 (ep : Int))).setCell ⟨w.heap.size + 1 + 1, 5, none⟩ (.int .u64 (fl : Int))).setCell ⟨w.heap.size + 1 + 1, 6, none⟩ (.int .u64 (un : Int))).setCell ⟨w.heap.size + 1 + 1, 7, none⟩ (.int .u64 (le : Int))).setCell ⟨w.heap.size + 1 + 1, 8, none⟩ (.int .u64 (st : Int))).setCell ⟨w.heap.size + 1 + 1, 9, none⟩ (.int .u64 (ti : Int))).setCell ⟨w.heap.size + 1 + 1, 10, none⟩ (.slice A3 j c3)).setCell ⟨w.heap.size + 1 + 1, 11, none⟩ (.slice G m d)).setCell ⟨w.heap.size + 1 + 1 + 1, 0, none⟩ (.slice A n c)).setCell ⟨w.heap.size + 1 + 1 + 1, 1, none⟩ (.int .i64 (a2 : Int))).setCell ⟨w.heap.size + 1 + 1 + 1, 2, none⟩ (.bool g2)) = W := ⟨_, rfl⟩
        have GG : Blk W6 (w.heap.size + 1 + 1 + 1) 117 #[.slice A n c, .int .i64 (a2 : Int), .bool g2] ∧ Blk W6 (w.heap.size + 1 + 1) 40 #[.int .u8 (k : Int), .int .u32 (id : Int), .int .u16 (code : Int), .bool last, .int .u64 (ep : Int), .int .u64 (fl : Int), .int .u64 (un : Int), .int .u64 (le : Int), .int .u64 (st : Int), .int .u64 (ti : Int), .slice A3 j c3, .slice G m d] ∧ Below w.heap.size w W6 ∧ W6.ownsRow (w.heap.size + 4) 93 7 (.slice A3 j c3) j (rcells L) := by
          rw [← hW]
          exact FF.out
        rw [hW]
        clear hW FF
        have f0 := GG.1.cell 0
        have f1 := GG.1.cell 1
        have f2 := GG.1.cell 2
        have h0 := GG.2.1.cell 0
        have h1 := GG.2.1.cell 1
        have h2 := GG.2.1.cell 2
        have h3 := GG.2.1.cell 3
        have h4 := GG.2.1.cell 4
        have h5 := GG.2.1.cell 5
        have h6 := GG.2.1.cell 6
        have h7 := GG.2.1.cell 7
        have h8 := GG.2.1.cell 8
        have h9 := GG.2.1.cell 9
        have h10 := GG.2.1.cell 10
        have h11 := GG.2.1.cell 11
        refine bodyPost_ret (v := .tuple #[.agg #[.int .u8 (k : Int), .int .u32 (id : Int), .int .u16 (code : Int), .bool last, .int .u64 (ep : Int), .int .u64 (fl : Int), .int .u64 (un : Int), .int .u64 (le : Int), .int .u64 (st : Int), .int .u64 (ti : Int), .slice A3 j c3, .slice G m d], .agg #[.slice A n c, .int .i64 (a2 : Int), .bool g2], .bool false]) ?_ rfl ⟨a2, g2, A3, c3, j, ha2, by rw [HF.out], by rw [HF.out]; exact HL.out.2, rfl, by rw [HF.out]; exact own_below GG.2.2.2 (Below.refl _ _).drew, GG.2.2.1.drew⟩
        simp [results, Tryz.results65, go_sem, f0, f1, f2, h0, h1, h2, h3, h4, h5, h6, h7, h8, h9, h10, h11]
end Go.Proofs.YtognlgklepgemaaGreat

namespace Go.Proofs.YtognlgklepgemaaGreat
open Go.ChangeShapes Go.WideShapes Go.ChangeAt Go.RowKit

set_option maxRecDepth 100000 in
set_option maxHeartbeats 4000000 in
theorem refTakeGone_any (k id code : Nat) (last : Bool) (ep fl un le st ti : Nat) (Q : Option Addr) (n1 c1 : Nat) (n c a B v : Nat) (A : Option Addr) (b : List Nat) (f : Bool) (w : World) (hb : Bytes w B A n b) (hB : B ≤ w.heap.size) (hn : n ≤ 1000000) (ha : a ≤ n) (hc : n ≤ c) (hv : Rp.vl (b.drop a, f) 1 = v) (hv2 : v < 256) :
    Calls Tryz.prog 65 #[.agg #[.int .u8 (k : Int), .int .u32 (id : Int), .int .u16 (code : Int), .bool last, .int .u64 (ep : Int), .int .u64 (fl : Int), .int .u64 (un : Int), .int .u64 (le : Int), .int .u64 (st : Int), .int .u64 (ti : Int), .slice Q n1 c1, .slice none 0 0], .int .u8 103, .agg #[.slice A n c, .int .i64 (a : Int), .bool f]] w fun e w' => ∃ a' g A' c' m', a' ≤ n ∧ (Rp.rList Rp.tPane v (Rp.nx (b.drop a, f) 1)).2 = (b.drop a', g) ∧ (Rp.rList Rp.tPane v (Rp.nx (b.drop a, f) 1)).1.length = m' ∧ e = .returned (.tuple #[.agg #[.int .u8 (k : Int), .int .u32 (id : Int), .int .u16 (code : Int), .bool last, .int .u64 (ep : Int), .int .u64 (fl : Int), .int .u64 (un : Int), .int .u64 (le : Int), .int .u64 (st : Int), .int .u64 (ti : Int), .slice Q n1 c1, .slice A' m' c'], .agg #[.slice A n c, .int .i64 (a' : Int), .bool g], .bool false]) ∧ w'.ownsRow (w.heap.size + 4) 90 3 (.slice A' m' c') m' (pncells (Rp.rList Rp.tPane v (Rp.nx (b.drop a, f) 1)).1) ∧ Below w.heap.size w w' := by
  obtain ⟨i0, hi, hz0, hz1, hz2⟩ := info_parts info8_pane
  have HI := Lib.hid (And.intro hi (And.intro hz0 (And.intro hz1 hz2)))
  clear hi hz0 hz1 hz2
  have HBY : Hid (∀ W, Below w.heap.size w W → Bytes W B A n b) := Lib.hid fun W hW => hb.below hW hB
  have HBS : Hid (∀ W, Below w.heap.size w W → B ≤ W.heap.size) := Lib.hid fun W hW => Nat.le_trans hB hW.size
  have S0 := Lib.hid (((((Held.start w).new #[.int .u8 (k : Int), .int .u32 (id : Int), .int .u16 (code : Int), .bool last, .int .u64 (ep : Int), .int .u64 (fl : Int), .int .u64 (un : Int), .int .u64 (le : Int), .int .u64 (st : Int), .int .u64 (ti : Int), .slice Q n1 c1, .slice none 0 0] 40).new #[.slice A n c, .int .i64 (a : Int), .bool f] 117).new #[.int .u8 0, .int .u32 0, .int .u16 0, .bool false, .int .u64 0, .int .u64 0, .int .u64 0, .int .u64 0, .int .u64 0, .int .u64 0, .slice none 0 0, .slice none 0 0] 40).new #[.slice none 0 0, .int .i64 0, .bool false] 117)
  simp only [World.size_alloc] at S0
  have HV := Lib.hid hv
  obtain ⟨s1, hs1⟩ : ∃ s, Rp.nx (b.drop a, f) 1 = s := ⟨_, rfl⟩
  have HS1 := Lib.hid hs1
  rw [hs1]
  clear hb hB hv hs1
  go_enter Tryz.func65, Tryz.ntmps65
  go_wp2_with fail
  obtain ⟨W0, hW0⟩ : ∃ W, (((w.alloc (.cells #[.int .u8 (k : Int), .int .u32 (id : Int), .int .u16 (code : Int), .bool last, .int .u64 (ep : Int), .int .u64 (fl : Int), .int .u64 (un : Int), .int .u64 (le : Int), .int .u64 (st : Int), .int .u64 (ti : Int), .slice Q n1 c1, .slice none 0 0] 40)).alloc (.cells #[.slice A n c, .int .i64 (a : Int), .bool f] 117)).alloc (.cells #[.int .u8 0, .int .u32 0, .int .u16 0, .bool false, .int .u64 0, .int .u64 0, .int .u64 0, .int .u64 0, .int .u64 0, .int .u64 0, .slice none 0 0, .slice none 0 0] 40)).alloc (.cells #[.slice none 0 0, .int .i64 0, .bool false] 117) = W := ⟨_, rfl⟩
  rw [hW0] at S0 ⊢
  clear hW0
  have S0 := Lib.hid (S0.out.sub8 (l' := [(w.heap.size + 1, 117, (#[.slice A n c, .int .i64 (a : Int), .bool f] : Array Value)), (w.heap.size, 40, (#[.int .u8 (k : Int), .int .u32 (id : Int), .int .u16 (code : Int), .bool last, .int .u64 (ep : Int), .int .u64 (fl : Int), .int .u64 (un : Int), .int .u64 (le : Int), .int .u64 (st : Int), .int .u64 (ti : Int), .slice Q n1 c1, .slice none 0 0] : Array Value)), (w.heap.size + 1 + 1, 40, (#[.int .u8 0, .int .u32 0, .int .u16 0, .bool false, .int .u64 0, .int .u64 0, .int .u64 0, .int .u64 0, .int .u64 0, .int .u64 0, .slice none 0 0, .slice none 0 0] : Array Value)), (w.heap.size + 1 + 1 + 1, 117, (#[.slice none 0 0, .int .i64 0, .bool false] : Array Value))]) (by intro x hx; simp only [List.mem_cons, List.not_mem_nil, or_false] at hx ⊢; rcases hx with h | h | h | h <;> simp [h]))
  refine (rt_take (c := c) 1 (HBY.out W0 S0.out.1) (HBS.out W0 S0.out.1) hn ha (by omega)).mono ?_
  rw [HV.out, HS1.out]
  rintro e w1 ⟨a1, g1, ha1, hst, rfl, b1⟩
  have N1 := Lib.hid hst
  have S1 := Lib.hid (S0.out.step b1)
  have hz1 : w.heap.size + 4 ≤ w1.heap.size := (S1.out.at_ (g := w.heap.size + 1 + 1 + 1) (t := 117) (cs := #[.slice none 0 0, .int .i64 0, .bool false]) (by simp)).lt
  clear b1 hst S0
  have kk := S1.out.at_ (List.mem_cons_self ..)
  have p0 := kk.cell 0
  have pf0 := kk.frozen 0
  have p1 := kk.cell 1
  have pf1 := kk.frozen 1
  have p2 := kk.cell 2
  have pf2 := kk.frozen 2
  clear kk
  go_wp2_with fail
  clear p0 pf0 p1 pf1 p2 pf2
  have s1' := S1.out.three8 (by omega) (by intro x hx; simp only [List.mem_cons, List.not_mem_nil, or_false] at hx; rcases hx with h | h | h <;> rw [h] <;> (dsimp only; omega)) (.slice A n c) (.int .i64 (a1 : Int)) (.bool g1)
  have hz1' : w.heap.size + 4 ≤ (((w1.setCell ⟨w.heap.size + 1, 0, none⟩ (.slice A n c)).setCell ⟨w.heap.size + 1, 1, none⟩ (.int .i64 (a1 : Int))).setCell ⟨w.heap.size + 1, 2, none⟩ (.bool g1)).heap.size := by simpa [World.setCell] using hz1
  obtain ⟨W1, hW⟩ : ∃ W, ((w1.setCell ⟨w.heap.size + 1, 0, none⟩ (.slice A n c)).setCell ⟨w.heap.size + 1, 1, none⟩ (.int .i64 (a1 : Int))).setCell ⟨w.heap.size + 1, 2, none⟩ (.bool g1) = W := ⟨_, rfl⟩
  rw [hW] at s1' hz1' ⊢
  have Sx := Lib.hid s1'
  clear hW s1' S1 hz1
  go_loopw [13] (fun i wr => ∃ (j a' : Nat) (A3 : Option Addr) (c3 : Nat), j ≤ v ∧ i = .int .u64 (j : Int) ∧ a' ≤ n ∧ ∃ g' L, Rp.rList Rp.tPane j s1 = (L, (b.drop a', g')) ∧ L.length = j ∧ wr.ownsRow (w.heap.size + 4) 90 3 (.slice A3 j c3) j (pncells L) ∧ Held w wr [(w.heap.size + 1, 117, (#[.slice A n c, .int .i64 (a' : Int), .bool g'] : Array Value)), (w.heap.size, 40, (#[.int .u8 (k : Int), .int .u32 (id : Int), .int .u16 (code : Int), .bool last, .int .u64 (ep : Int), .int .u64 (fl : Int), .int .u64 (un : Int), .int .u64 (le : Int), .int .u64 (st : Int), .int .u64 (ti : Int), .slice Q n1 c1, .slice A3 j c3] : Array Value)), (w.heap.size + 1 + 1, 40, (#[.int .u8 0, .int .u32 0, .int .u16 0, .bool false, .int .u64 0, .int .u64 0, .int .u64 0, .int .u64 0, .int .u64 0, .int .u64 0, .slice none 0 0, .slice none 0 0] : Array Value)), (w.heap.size + 1 + 1 + 1, 117, (#[.slice none 0 0, .int .i64 0, .bool false] : Array Value))]) (fun i _ => v - (intOf i).toNat)
  case atStart => exact ⟨0, a1, none, 0, by omega, rfl, ha1, g1, [], (by rw [N1.out]; rfl), rfl, own_nil _ _ _ _, Sx.out⟩
  case round =>
    obtain ⟨j, a2, A3, c3, hj, rfl, ha2, g2, L, hL, hlen, hown, hheld⟩ := hrel
    have HS := Lib.hid hheld
    have HO := Lib.hid hown
    have HL := Lib.hid (And.intro hL hlen)
    clear hheld hown hL hlen
    by_cases hgo : j < v ∧ g2 = false
    · obtain ⟨hjv, rfl⟩ := hgo
      have i1 : (j : Int) < v := by omega
      have kk := HS.out.at_ (List.mem_cons_self ..)
      have p0 := kk.cell 0
      have pf0 := kk.frozen 0
      have p1 := kk.cell 1
      have pf1 := kk.frozen 1
      have p2 := kk.cell 2
      have pf2 := kk.frozen 2
      clear kk
      obtain ⟨⟨pk, ps, pe⟩, hrow⟩ : ∃ x : Pn, (Rp.tPane (b.drop a2, false)).1 = x := ⟨_, rfl⟩
      have hz2 : w.heap.size + 4 ≤ wr.heap.size := (HS.out.at_ (g := w.heap.size + 1 + 1 + 1) (t := 117) (cs := #[.slice none 0 0, .int .i64 0, .bool false]) (by simp)).lt
      go_wp2_with fail
      clear p0 pf0 p1 pf1 p2 pf2
      refine (rt_pane (HBY.out wr HS.out.1) (HBS.out wr HS.out.1) hn ha2 hc hrow).mono ?_
      rintro e w2 ⟨a3, g3, ha3, hs3, rfl, b2⟩
      have HN := Lib.hid (And.intro hs3 hrow)
      have S2 := HS.out.step b2
      have O2 := own_below HO.out b2
      have hz3 : w.heap.size + 4 ≤ w2.heap.size := Nat.le_trans hz2 b2.size
      have S3 := (S2.new #[.string pk, .int .i64 ps, .int .i64 pe] 90).new #[.slice A n c, .int .i64 (a3 : Int), .bool g3] 117
      have O3 := own_below O2 (((Below.refl _ _).alloc (Nat.le_refl _) (.cells #[.string pk, .int .i64 ps, .int .i64 pe] 90)).alloc (by simp) (.cells #[.slice A n c, .int .i64 (a3 : Int), .bool g3] 117))
      clear b2 hs3 hrow
      simp only [World.size_alloc] at S3
      go_upto_region 26 with (fail)
      obtain ⟨W3, hW⟩ : ∃ W, (w2.alloc (.cells #[.string pk, .int .i64 ps, .int .i64 pe] 90)).alloc (.cells #[.slice A n c, .int .i64 (a3 : Int), .bool g3] 117) = W := ⟨_, rfl⟩
      rw [hW] at S3 O3 ⊢
      have hz4 : w2.heap.size + 2 ≤ W3.heap.size := by rw [← hW]; simp
      clear hW
      have S4 : Hid (Held w (W3.alloc (.cells #[.string pk, .int .i64 ps, .int .i64 pe] 90)) [(w2.heap.size + 1, 117, (#[.slice A n c, .int .i64 (a3 : Int), .bool g3] : Array Value)), (w2.heap.size, 90, (#[.string pk, .int .i64 ps, .int .i64 pe] : Array Value)), (w.heap.size + 1, 117, (#[.slice A n c, .int .i64 (a2 : Int), .bool false] : Array Value)), (w.heap.size, 40, (#[.int .u8 (k : Int), .int .u32 (id : Int), .int .u16 (code : Int), .bool last, .int .u64 (ep : Int), .int .u64 (fl : Int), .int .u64 (un : Int), .int .u64 (le : Int), .int .u64 (st : Int), .int .u64 (ti : Int), .slice Q n1 c1, .slice A3 j c3] : Array Value)), (w.heap.size + 1 + 1, 40, (#[.int .u8 0, .int .u32 0, .int .u16 0, .bool false, .int .u64 0, .int .u64 0, .int .u64 0, .int .u64 0, .int .u64 0, .int .u64 0, .slice none 0 0, .slice none 0 0] : Array Value)), (w.heap.size + 1 + 1 + 1, 117, (#[.slice none 0 0, .int .i64 0, .bool false] : Array Value))]) := Lib.hid (S3.step ((Below.refl _ _).alloc (Nat.le_refl _) _))
      have O4 := Lib.hid (own_below O3 ((Below.refl _ _).alloc (Nat.le_refl _) (.cells #[.string pk, .int .i64 ps, .int .i64 pe] 90)))
      have HK := Lib.hid (fun k hk => (O2.lt k hk).2)
      have kk := S3.at_ (List.mem_cons_of_mem _ (List.mem_cons_self ..))
      have e0 := kk.cell 0
      have e1 := kk.cell 1
      have e2 := kk.cell 2
      clear kk
      have kk := S3.at_ (List.mem_cons_of_mem _ (List.mem_cons_of_mem _ (List.mem_cons_of_mem _ (List.mem_cons_self ..))))
      have q0 := kk.cell 0
      have q1 := kk.cell 1
      have q2 := kk.cell 2
      have q3 := kk.cell 3
      have q4 := kk.cell 4
      have q5 := kk.cell 5
      have q6 := kk.cell 6
      have q7 := kk.cell 7
      have q8 := kk.cell 8
      have q9 := kk.cell 9
      have q10 := kk.cell 10
      have q11 := kk.cell 11
      clear kk
      clear S3 O3 S2 O2
      go_wp2_with (at_builtin; refine wpList_append_own _ rfl _ _ 38 rfl (w.heap.size + 4) 90 i0 (.agg #[.string ⟨#[]⟩, .int .i64 0, .int .i64 0]) 3 32 Tryz.underlying38 HI.out.1 HI.out.2.1 HI.out.2.2.1 HI.out.2.2.2 rfl (by decide) _ j _ rfl O4.out ⟨W3.heap.size, 0, none⟩ 1 1 [.string pk, .int .i64 ps, .int .i64 pe] rfl rfl (cells3' W3 _ _ _ _) (by simp [Value.oneCell']) (by unfold maxLen; omega) (by omega) (by simp; omega) ?_; intro v' w4 hown hgrow _; obtain ⟨A4, c4, rfl⟩ := own_slice hown; have S5 : Hid (Held w w4 [(w2.heap.size + 1, 117, (#[.slice A n c, .int .i64 (a3 : Int), .bool g3] : Array Value)), (w2.heap.size, 90, (#[.string pk, .int .i64 ps, .int .i64 pe] : Array Value)), (w.heap.size + 1, 117, (#[.slice A n c, .int .i64 (a2 : Int), .bool false] : Array Value)), (w.heap.size, 40, (#[.int .u8 (k : Int), .int .u32 (id : Int), .int .u16 (code : Int), .bool last, .int .u64 (ep : Int), .int .u64 (fl : Int), .int .u64 (un : Int), .int .u64 (le : Int), .int .u64 (st : Int), .int .u64 (ti : Int), .slice Q n1 c1, .slice A3 j c3] : Array Value)), (w.heap.size + 1 + 1, 40, (#[.int .u8 0, .int .u32 0, .int .u16 0, .bool false, .int .u64 0, .int .u64 0, .int .u64 0, .int .u64 0, .int .u64 0, .int .u64 0, .slice none 0 0, .slice none 0 0] : Array Value)), (w.heap.size + 1 + 1 + 1, 117, (#[.slice none 0 0, .int .i64 0, .bool false] : Array Value))]) := Lib.hid (S4.out.grown8 hgrow (fun k hk => ⟨(by have := (O4.out.lt k hk).1; omega), (fun x hx => by have h1 := (O4.out.lt k hk).1; have h2 := HK.out k hk; simp only [List.mem_cons, List.not_mem_nil, or_false] at hx; rcases hx with h | h | h | h | h | h <;> rw [h] <;> (dsimp only; omega))⟩)); have O5 := Lib.hid hown; have kk := S5.out.at_ (List.mem_cons_self ..); have t0 := kk.cell 0; have t1 := kk.cell 1; have t2 := kk.cell 2; clear kk; have kk := S5.out.at_ (List.mem_cons_of_mem _ (List.mem_cons_of_mem _ (List.mem_cons_of_mem _ (List.mem_cons_self ..)))); have u10 := kk.cell 11; have uf10 := kk.frozen 11; clear kk; have kk := S5.out.at_ (List.mem_cons_of_mem _ (List.mem_cons_of_mem _ (List.mem_cons_self ..))); have p0 := kk.cell 0; have p1 := kk.cell 1; have p2 := kk.cell 2; have pf0 := kk.frozen 0; have pf1 := kk.frozen 1; have pf2 := kk.frozen 2; clear kk hown hgrow)
      have T0 := S5.out.sub8 (l' := [(w.heap.size, 40, (#[.int .u8 (k : Int), .int .u32 (id : Int), .int .u16 (code : Int), .bool last, .int .u64 (ep : Int), .int .u64 (fl : Int), .int .u64 (un : Int), .int .u64 (le : Int), .int .u64 (st : Int), .int .u64 (ti : Int), .slice Q n1 c1, .slice A3 j c3] : Array Value)), (w.heap.size + 1, 117, (#[.slice A n c, .int .i64 (a2 : Int), .bool false] : Array Value)), (w.heap.size + 1 + 1, 40, (#[.int .u8 0, .int .u32 0, .int .u16 0, .bool false, .int .u64 0, .int .u64 0, .int .u64 0, .int .u64 0, .int .u64 0, .int .u64 0, .slice none 0 0, .slice none 0 0] : Array Value)), (w.heap.size + 1 + 1 + 1, 117, (#[.slice none 0 0, .int .i64 0, .bool false] : Array Value))]) (by intro x hx; simp only [List.mem_cons, List.not_mem_nil, or_false] at hx ⊢; rcases hx with h | h | h | h <;> simp [h])
      have T1 := T0.put8 (Nat.le_refl _) (by intro x hx; simp only [List.mem_cons, List.not_mem_nil, or_false] at hx; rcases hx with h | h | h <;> rw [h] <;> (dsimp only; omega)) 11 (.slice A4 (j + 1) c4)
      have T2 := T1.sub8 (l' := [(w.heap.size + 1, 117, (#[.slice A n c, .int .i64 (a2 : Int), .bool false] : Array Value)), (w.heap.size, 40, (#[.int .u8 (k : Int), .int .u32 (id : Int), .int .u16 (code : Int), .bool last, .int .u64 (ep : Int), .int .u64 (fl : Int), .int .u64 (un : Int), .int .u64 (le : Int), .int .u64 (st : Int), .int .u64 (ti : Int), .slice Q n1 c1, .slice A4 (j + 1) c4] : Array Value)), (w.heap.size + 1 + 1, 40, (#[.int .u8 0, .int .u32 0, .int .u16 0, .bool false, .int .u64 0, .int .u64 0, .int .u64 0, .int .u64 0, .int .u64 0, .int .u64 0, .slice none 0 0, .slice none 0 0] : Array Value)), (w.heap.size + 1 + 1 + 1, 117, (#[.slice none 0 0, .int .i64 0, .bool false] : Array Value))]) (by intro x hx; simp only [List.mem_cons, List.not_mem_nil, or_false] at hx ⊢; rcases hx with h | h | h | h <;> simp [h])
      have T3 := T2.three8 (by omega) (by intro x hx; simp only [List.mem_cons, List.not_mem_nil, or_false] at hx; rcases hx with h | h | h <;> rw [h] <;> (dsimp only; omega)) (.slice A n c) (.int .i64 (a3 : Int)) (.bool g3)
      have O6 := own_set8 (own_set8 (own_set8 (own_set8 O5.out (g := w.heap.size) (by omega) 11 (.slice A4 (j + 1) c4)) (g := w.heap.size + 1) (by omega) 0 (.slice A n c)) (g := w.heap.size + 1) (by omega) 1 (.int .i64 (a3 : Int))) (g := w.heap.size + 1) (by omega) 2 (.bool g3)
      have hsn := Rp.rList_snoc (f := Rp.tPane) j s1 (by rw [HL.out.1])
      rw [HL.out.1, HN.out.2, HN.out.1] at hsn
      refine ⟨⟨j + 1, a3, A4, c4, by omega, by go_num, ha3, g3, _, hsn, by rw [List.length_append, HL.out.2]; rfl, ?_, T3⟩, by simp [intOf]; omega⟩
      rw [pncells_snoc]
      exact O6
    · have hfin : Rp.rList Rp.tPane v s1 = (L, (b.drop a2, g2)) := by
        rcases Nat.lt_or_ge j v with h | h
        · have hg : g2 = true := by
            cases g2
            · exact absurd ⟨h, rfl⟩ hgo
            · rfl
          subst hg
          have h2 := Rp.rList_stop (f := Rp.tPane) j (v - j) s1 (by rw [HL.out.1])
          rw [show j + (v - j) = v by omega] at h2
          rw [h2, HL.out.1]
        · obtain rfl : j = v := by omega
          exact HL.out.1
      have HF := Lib.hid hfin
      have hz2 : w.heap.size + 4 ≤ wr.heap.size := (HS.out.at_ (g := w.heap.size + 1 + 1 + 1) (t := 117) (cs := #[.slice none 0 0, .int .i64 0, .bool false]) (by simp)).lt
      clear hfin
      by_cases hjv : j < v
      · have hg : g2 = true := by
          cases g2
          · exact absurd ⟨hjv, rfl⟩ hgo
          · rfl
        subst hg
        have i1 : (j : Int) < v := by omega
        have kk := HS.out.at_ (List.mem_cons_self ..)
        have p0 := kk.cell 0
        have p1 := kk.cell 1
        have p2 := kk.cell 2
        clear kk
        have kk := HS.out.at_ (List.mem_cons_of_mem _ (List.mem_cons_self ..))
        have q0 := kk.cell 0
        have q1 := kk.cell 1
        have q2 := kk.cell 2
        have q3 := kk.cell 3
        have q4 := kk.cell 4
        have q5 := kk.cell 5
        have q6 := kk.cell 6
        have q7 := kk.cell 7
        have q8 := kk.cell 8
        have q9 := kk.cell 9
        have q10 := kk.cell 10
        have q11 := kk.cell 11
        clear kk
        have kk := HS.out.at_ (List.mem_cons_of_mem _ (List.mem_cons_of_mem _ (List.mem_cons_self ..)))
        have r0 := kk.cell 0
        have rf0 := kk.frozen 0
        have r1 := kk.cell 1
        have rf1 := kk.frozen 1
        have r2 := kk.cell 2
        have rf2 := kk.frozen 2
        have r3 := kk.cell 3
        have rf3 := kk.frozen 3
        have r4 := kk.cell 4
        have rf4 := kk.frozen 4
        have r5 := kk.cell 5
        have rf5 := kk.frozen 5
        have r6 := kk.cell 6
        have rf6 := kk.frozen 6
        have r7 := kk.cell 7
        have rf7 := kk.frozen 7
        have r8 := kk.cell 8
        have rf8 := kk.frozen 8
        have r9 := kk.cell 9
        have rf9 := kk.frozen 9
        have r10 := kk.cell 10
        have rf10 := kk.frozen 10
        have r11 := kk.cell 11
        have rf11 := kk.frozen 11
        clear kk
        have kk := HS.out.at_ (List.mem_cons_of_mem _ (List.mem_cons_of_mem _ (List.mem_cons_of_mem _ (List.mem_cons_self ..))))
        have s0 := kk.cell 0
        have sf0 := kk.frozen 0
        have s1 := kk.cell 1
        have sf1 := kk.frozen 1
        have s2 := kk.cell 2
        have sf2 := kk.frozen 2
        clear kk
        go_wp2_with fail
        go_region
        go_wp2_with fail
        clear p0 p1 p2 q0 q1 q2 q3 q4 q5 q6 q7 q8 q9 q10 q11 r0 rf0 r1 rf1 r2 rf2 r3 rf3 r4 rf4 r5 rf5 r6 rf6 r7 rf7 r8 rf8 r9 rf9 r10 rf10 r11 rf11 s0 sf0 s1 sf1 s2 sf2
        have T0 := HS.out.sub8 (l' := [(w.heap.size + 1 + 1, 40, (#[.int .u8 0, .int .u32 0, .int .u16 0, .bool false, .int .u64 0, .int .u64 0, .int .u64 0, .int .u64 0, .int .u64 0, .int .u64 0, .slice none 0 0, .slice none 0 0] : Array Value)), (w.heap.size + 1 + 1 + 1, 117, (#[.slice none 0 0, .int .i64 0, .bool false] : Array Value)), (w.heap.size, 40, (#[.int .u8 (k : Int), .int .u32 (id : Int), .int .u16 (code : Int), .bool last, .int .u64 (ep : Int), .int .u64 (fl : Int), .int .u64 (un : Int), .int .u64 (le : Int), .int .u64 (st : Int), .int .u64 (ti : Int), .slice Q n1 c1, .slice A3 j c3] : Array Value)), (w.heap.size + 1, 117, (#[.slice A n c, .int .i64 (a2 : Int), .bool true] : Array Value))]) (by intro x hx; simp only [List.mem_cons, List.not_mem_nil, or_false] at hx ⊢; rcases hx with h | h | h | h <;> simp [h])
        have T1 := T0.twelve8 (by omega) (by intro x hx; simp only [List.mem_cons, List.not_mem_nil, or_false] at hx; rcases hx with h | h | h <;> rw [h] <;> (dsimp only; omega)) (.int .u8 (k : Int)) (.int .u32 (id : Int)) (.int .u16 (code : Int)) (.bool last) (.int .u64 (ep : Int)) (.int .u64 (fl : Int)) (.int .u64 (un : Int)) (.int .u64 (le : Int)) (.int .u64 (st : Int)) (.int .u64 (ti : Int)) (.slice Q n1 c1) (.slice A3 j c3)
        have T2 := T1.sub8 (l' := [(w.heap.size + 1 + 1 + 1, 117, (#[.slice none 0 0, .int .i64 0, .bool false] : Array Value)), (w.heap.size + 1 + 1, 40, (#[.int .u8 (k : Int), .int .u32 (id : Int), .int .u16 (code : Int), .bool last, .int .u64 (ep : Int), .int .u64 (fl : Int), .int .u64 (un : Int), .int .u64 (le : Int), .int .u64 (st : Int), .int .u64 (ti : Int), .slice Q n1 c1, .slice A3 j c3] : Array Value)), (w.heap.size, 40, (#[.int .u8 (k : Int), .int .u32 (id : Int), .int .u16 (code : Int), .bool last, .int .u64 (ep : Int), .int .u64 (fl : Int), .int .u64 (un : Int), .int .u64 (le : Int), .int .u64 (st : Int), .int .u64 (ti : Int), .slice Q n1 c1, .slice A3 j c3] : Array Value)), (w.heap.size + 1, 117, (#[.slice A n c, .int .i64 (a2 : Int), .bool true] : Array Value))]) (by intro x hx; simp only [List.mem_cons, List.not_mem_nil, or_false] at hx ⊢; rcases hx with h | h | h | h <;> simp [h])
        have T3 := T2.three8 (by omega) (by intro x hx; simp only [List.mem_cons, List.not_mem_nil, or_false] at hx; rcases hx with h | h | h <;> rw [h] <;> (dsimp only; omega)) (.slice A n c) (.int .i64 (a2 : Int)) (.bool true)
        have O6 : ((((((((((((((((wr.setCell ⟨w.heap.size + 1 + 1, 0, none⟩ (.int .u8 (k : Int))).setCell ⟨w.heap.size + 1 + 1, 1, none⟩ (.int .u32 (id : Int))).setCell ⟨w.heap.size + 1 + 1, 2, none⟩ (.int .u16 (code : Int))).setCell ⟨w.heap.size + 1 + 1, 3, none⟩ (.bool last)).setCell ⟨w.heap.size + 1 + 1, 4, none⟩ (.int .u64 (ep : Int))).setCell ⟨w.heap.size + 1 + 1, 5, none⟩ (.int .u64 (fl : Int))).setCell ⟨w.heap.size + 1 + 1, 6, none⟩ (.int .u64 (un : Int))).setCell ⟨w.heap.size + 1 + 1, 7, none⟩ (.int .u64 (le : Int))).setCell ⟨w.heap.size + 1 + 1, 8, none⟩ (.int .u64 (st : Int))).setCell ⟨w.heap.size + 1 + 1, 9, none⟩ (.int .u64 (ti : Int))).setCell ⟨w.heap.size + 1 + 1, 10, none⟩ (.slice Q n1 c1)).setCell ⟨w.heap.size + 1 + 1, 11, none⟩ (.slice A3 j c3)).setCell ⟨w.heap.size + 1 + 1 + 1, 0, none⟩ (.slice A n c)).setCell ⟨w.heap.size + 1 + 1 + 1, 1, none⟩ (.int .i64 (a2 : Int))).setCell ⟨w.heap.size + 1 + 1 + 1, 2, none⟩ (.bool true))).ownsRow (w.heap.size + 4) 90 3 (.slice A3 j c3) j (pncells L) := by
          repeat (with_reducible refine own_set8 ?_ (by omega) _ _)
          exact HO.out
        have FF := Lib.hid (And.intro (T3.at_ (List.mem_cons_self ..)) (And.intro (T3.at_ (List.mem_cons_of_mem _ (List.mem_cons_self ..))) (And.intro T3.1 O6)))
        clear T0 T1 T2 T3 O6
        obtain ⟨W6, hW⟩ : ∃ W, (((((((((((((((wr.setCell ⟨w.heap.size + 1 + 1, 0, none⟩ (.int .u8 (k : Int))).setCell ⟨w.heap.size + 1 + 1, 1, none⟩ (.int .u32 (id : Int))).setCell ⟨w.heap.size + 1 + 1, 2, none⟩ (.int .u16 (code : Int))).setCell ⟨w.heap.size + 1 + 1, 3, none⟩ (.bool last)).setCell ⟨w.heap.size + 1 + 1, 4, none⟩ (.int .u64 (ep : Int))).setCell ⟨w.heap.size + 1 + 1, 5, none⟩ (.int .u64 (fl : Int))).setCell ⟨w.heap.size + 1 + 1, 6, none⟩ (.int .u64 (un : Int))).setCell ⟨w.heap.size + 1 + 1, 7, none⟩ (.int .u64 (le : Int))).setCell ⟨w.heap.size + 1 + 1, 8, none⟩ (.int .u64 (st : Int))).setCell ⟨w.heap.size + 1 + 1, 9, none⟩ (.int .u64 (ti : Int))).setCell ⟨w.heap.size + 1 + 1, 10, none⟩ (.slice Q n1 c1)).setCell ⟨w.heap.size + 1 + 1, 11, none⟩ (.slice A3 j c3)).setCell ⟨w.heap.size + 1 + 1 + 1, 0, none⟩ (.slice A n c)).setCell ⟨w.heap.size + 1 + 1 + 1, 1, none⟩ (.int .i64 (a2 : Int))).setCell ⟨w.heap.size + 1 + 1 + 1, 2, none⟩ (.bool true)) = W := ⟨_, rfl⟩
        have GG : Blk W6 (w.heap.size + 1 + 1 + 1) 117 #[.slice A n c, .int .i64 (a2 : Int), .bool true] ∧ Blk W6 (w.heap.size + 1 + 1) 40 #[.int .u8 (k : Int), .int .u32 (id : Int), .int .u16 (code : Int), .bool last, .int .u64 (ep : Int), .int .u64 (fl : Int), .int .u64 (un : Int), .int .u64 (le : Int), .int .u64 (st : Int), .int .u64 (ti : Int), .slice Q n1 c1, .slice A3 j c3] ∧ Below w.heap.size w W6 ∧ W6.ownsRow (w.heap.size + 4) 90 3 (.slice A3 j c3) j (pncells L) := by
          rw [← hW]
          exact FF.out
        rw [hW]
        clear hW FF
        have f0 := GG.1.cell 0
        have f1 := GG.1.cell 1
        have f2 := GG.1.cell 2
        have h0 := GG.2.1.cell 0
        have h1 := GG.2.1.cell 1
        have h2 := GG.2.1.cell 2
        have h3 := GG.2.1.cell 3
        have h4 := GG.2.1.cell 4
        have h5 := GG.2.1.cell 5
        have h6 := GG.2.1.cell 6
        have h7 := GG.2.1.cell 7
        have h8 := GG.2.1.cell 8
        have h9 := GG.2.1.cell 9
        have h10 := GG.2.1.cell 10
        have h11 := GG.2.1.cell 11
        refine bodyPost_ret (v := .tuple #[.agg #[.int .u8 (k : Int), .int .u32 (id : Int), .int .u16 (code : Int), .bool last, .int .u64 (ep : Int), .int .u64 (fl : Int), .int .u64 (un : Int), .int .u64 (le : Int), .int .u64 (st : Int), .int .u64 (ti : Int), .slice Q n1 c1, .slice A3 j c3], .agg #[.slice A n c, .int .i64 (a2 : Int), .bool true], .bool false]) ?_ rfl ⟨a2, true, A3, c3, j, ha2, by rw [HF.out], by rw [HF.out]; exact HL.out.2, rfl, by rw [HF.out]; exact own_below GG.2.2.2 (Below.refl _ _).drew, GG.2.2.1.drew⟩
        simp [results, Tryz.results65, go_sem, f0, f1, f2, h0, h1, h2, h3, h4, h5, h6, h7, h8, h9, h10, h11]
      · have i1 : ¬ (j : Int) < v := by omega
        have kk := HS.out.at_ (List.mem_cons_self ..)
        have p0 := kk.cell 0
        have p1 := kk.cell 1
        have p2 := kk.cell 2
        clear kk
        have kk := HS.out.at_ (List.mem_cons_of_mem _ (List.mem_cons_self ..))
        have q0 := kk.cell 0
        have q1 := kk.cell 1
        have q2 := kk.cell 2
        have q3 := kk.cell 3
        have q4 := kk.cell 4
        have q5 := kk.cell 5
        have q6 := kk.cell 6
        have q7 := kk.cell 7
        have q8 := kk.cell 8
        have q9 := kk.cell 9
        have q10 := kk.cell 10
        have q11 := kk.cell 11
        clear kk
        have kk := HS.out.at_ (List.mem_cons_of_mem _ (List.mem_cons_of_mem _ (List.mem_cons_self ..)))
        have r0 := kk.cell 0
        have rf0 := kk.frozen 0
        have r1 := kk.cell 1
        have rf1 := kk.frozen 1
        have r2 := kk.cell 2
        have rf2 := kk.frozen 2
        have r3 := kk.cell 3
        have rf3 := kk.frozen 3
        have r4 := kk.cell 4
        have rf4 := kk.frozen 4
        have r5 := kk.cell 5
        have rf5 := kk.frozen 5
        have r6 := kk.cell 6
        have rf6 := kk.frozen 6
        have r7 := kk.cell 7
        have rf7 := kk.frozen 7
        have r8 := kk.cell 8
        have rf8 := kk.frozen 8
        have r9 := kk.cell 9
        have rf9 := kk.frozen 9
        have r10 := kk.cell 10
        have rf10 := kk.frozen 10
        have r11 := kk.cell 11
        have rf11 := kk.frozen 11
        clear kk
        have kk := HS.out.at_ (List.mem_cons_of_mem _ (List.mem_cons_of_mem _ (List.mem_cons_of_mem _ (List.mem_cons_self ..))))
        have s0 := kk.cell 0
        have sf0 := kk.frozen 0
        have s1 := kk.cell 1
        have sf1 := kk.frozen 1
        have s2 := kk.cell 2
        have sf2 := kk.frozen 2
        clear kk
        go_wp2_with fail
        go_region
        go_wp2_with fail
        clear p0 p1 p2 q0 q1 q2 q3 q4 q5 q6 q7 q8 q9 q10 q11 r0 rf0 r1 rf1 r2 rf2 r3 rf3 r4 rf4 r5 rf5 r6 rf6 r7 rf7 r8 rf8 r9 rf9 r10 rf10 r11 rf11 s0 sf0 s1 sf1 s2 sf2
        have T0 := HS.out.sub8 (l' := [(w.heap.size + 1 + 1, 40, (#[.int .u8 0, .int .u32 0, .int .u16 0, .bool false, .int .u64 0, .int .u64 0, .int .u64 0, .int .u64 0, .int .u64 0, .int .u64 0, .slice none 0 0, .slice none 0 0] : Array Value)), (w.heap.size + 1 + 1 + 1, 117, (#[.slice none 0 0, .int .i64 0, .bool false] : Array Value)), (w.heap.size, 40, (#[.int .u8 (k : Int), .int .u32 (id : Int), .int .u16 (code : Int), .bool last, .int .u64 (ep : Int), .int .u64 (fl : Int), .int .u64 (un : Int), .int .u64 (le : Int), .int .u64 (st : Int), .int .u64 (ti : Int), .slice Q n1 c1, .slice A3 j c3] : Array Value)), (w.heap.size + 1, 117, (#[.slice A n c, .int .i64 (a2 : Int), .bool g2] : Array Value))]) (by intro x hx; simp only [List.mem_cons, List.not_mem_nil, or_false] at hx ⊢; rcases hx with h | h | h | h <;> simp [h])
        have T1 := T0.twelve8 (by omega) (by intro x hx; simp only [List.mem_cons, List.not_mem_nil, or_false] at hx; rcases hx with h | h | h <;> rw [h] <;> (dsimp only; omega)) (.int .u8 (k : Int)) (.int .u32 (id : Int)) (.int .u16 (code : Int)) (.bool last) (.int .u64 (ep : Int)) (.int .u64 (fl : Int)) (.int .u64 (un : Int)) (.int .u64 (le : Int)) (.int .u64 (st : Int)) (.int .u64 (ti : Int)) (.slice Q n1 c1) (.slice A3 j c3)
        have T2 := T1.sub8 (l' := [(w.heap.size + 1 + 1 + 1, 117, (#[.slice none 0 0, .int .i64 0, .bool false] : Array Value)), (w.heap.size + 1 + 1, 40, (#[.int .u8 (k : Int), .int .u32 (id : Int), .int .u16 (code : Int), .bool last, .int .u64 (ep : Int), .int .u64 (fl : Int), .int .u64 (un : Int), .int .u64 (le : Int), .int .u64 (st : Int), .int .u64 (ti : Int), .slice Q n1 c1, .slice A3 j c3] : Array Value)), (w.heap.size, 40, (#[.int .u8 (k : Int), .int .u32 (id : Int), .int .u16 (code : Int), .bool last, .int .u64 (ep : Int), .int .u64 (fl : Int), .int .u64 (un : Int), .int .u64 (le : Int), .int .u64 (st : Int), .int .u64 (ti : Int), .slice Q n1 c1, .slice A3 j c3] : Array Value)), (w.heap.size + 1, 117, (#[.slice A n c, .int .i64 (a2 : Int), .bool g2] : Array Value))]) (by intro x hx; simp only [List.mem_cons, List.not_mem_nil, or_false] at hx ⊢; rcases hx with h | h | h | h <;> simp [h])
        have T3 := T2.three8 (by omega) (by intro x hx; simp only [List.mem_cons, List.not_mem_nil, or_false] at hx; rcases hx with h | h | h <;> rw [h] <;> (dsimp only; omega)) (.slice A n c) (.int .i64 (a2 : Int)) (.bool g2)
        have O6 : ((((((((((((((((wr.setCell ⟨w.heap.size + 1 + 1, 0, none⟩ (.int .u8 (k : Int))).setCell ⟨w.heap.size + 1 + 1, 1, none⟩ (.int .u32 (id : Int))).setCell ⟨w.heap.size + 1 + 1, 2, none⟩ (.int .u16 (code : Int))).setCell ⟨w.heap.size + 1 + 1, 3, none⟩ (.bool last)).setCell ⟨w.heap.size + 1 + 1, 4, none⟩ (.int .u64 (ep : Int))).setCell ⟨w.heap.size + 1 + 1, 5, none⟩ (.int .u64 (fl : Int))).setCell ⟨w.heap.size + 1 + 1, 6, none⟩ (.int .u64 (un : Int))).setCell ⟨w.heap.size + 1 + 1, 7, none⟩ (.int .u64 (le : Int))).setCell ⟨w.heap.size + 1 + 1, 8, none⟩ (.int .u64 (st : Int))).setCell ⟨w.heap.size + 1 + 1, 9, none⟩ (.int .u64 (ti : Int))).setCell ⟨w.heap.size + 1 + 1, 10, none⟩ (.slice Q n1 c1)).setCell ⟨w.heap.size + 1 + 1, 11, none⟩ (.slice A3 j c3)).setCell ⟨w.heap.size + 1 + 1 + 1, 0, none⟩ (.slice A n c)).setCell ⟨w.heap.size + 1 + 1 + 1, 1, none⟩ (.int .i64 (a2 : Int))).setCell ⟨w.heap.size + 1 + 1 + 1, 2, none⟩ (.bool g2))).ownsRow (w.heap.size + 4) 90 3 (.slice A3 j c3) j (pncells L) := by
          repeat (with_reducible refine own_set8 ?_ (by omega) _ _)
          exact HO.out
        have FF := Lib.hid (And.intro (T3.at_ (List.mem_cons_self ..)) (And.intro (T3.at_ (List.mem_cons_of_mem _ (List.mem_cons_self ..))) (And.intro T3.1 O6)))
        clear T0 T1 T2 T3 O6
        obtain ⟨W6, hW⟩ : ∃ W, (((((((((((((((wr.setCell ⟨w.heap.size + 1 + 1, 0, none⟩ (.int .u8 (k : Int))).setCell ⟨w.heap.size + 1 + 1, 1, none⟩ (.int .u32 (id : Int))).setCell ⟨w.heap.size + 1 + 1, 2, none⟩ (.int .u16 (code : Int))).setCell ⟨w.heap.size + 1 + 1, 3, none⟩ (.bool last)).setCell ⟨w.heap.size + 1 + 1, 4, none⟩ (.int .u64 (ep : Int))).setCell ⟨w.heap.size + 1 + 1, 5, none⟩ (.int .u64 (fl : Int))).setCell ⟨w.heap.size + 1 + 1, 6, none⟩ (.int .u64 (un : Int))).setCell ⟨w.heap.size + 1 + 1, 7, none⟩ (.int .u64 (le : Int))).setCell ⟨w.heap.size + 1 + 1, 8, none⟩ (.int .u64 (st : Int))).setCell ⟨w.heap.size + 1 + 1, 9, none⟩ (.int .u64 (ti : Int))).setCell ⟨w.heap.size + 1 + 1, 10, none⟩ (.slice Q n1 c1)).setCell ⟨w.heap.size + 1 + 1, 11, none⟩ (.slice A3 j c3)).setCell ⟨w.heap.size + 1 + 1 + 1, 0, none⟩ (.slice A n c)).setCell ⟨w.heap.size + 1 + 1 + 1, 1, none⟩ (.int .i64 (a2 : Int))).setCell ⟨w.heap.size + 1 + 1 + 1, 2, none⟩ (.bool g2)) = W := ⟨_, rfl⟩
        have GG : Blk W6 (w.heap.size + 1 + 1 + 1) 117 #[.slice A n c, .int .i64 (a2 : Int), .bool g2] ∧ Blk W6 (w.heap.size + 1 + 1) 40 #[.int .u8 (k : Int), .int .u32 (id : Int), .int .u16 (code : Int), .bool last, .int .u64 (ep : Int), .int .u64 (fl : Int), .int .u64 (un : Int), .int .u64 (le : Int), .int .u64 (st : Int), .int .u64 (ti : Int), .slice Q n1 c1, .slice A3 j c3] ∧ Below w.heap.size w W6 ∧ W6.ownsRow (w.heap.size + 4) 90 3 (.slice A3 j c3) j (pncells L) := by
          rw [← hW]
          exact FF.out
        rw [hW]
        clear hW FF
        have f0 := GG.1.cell 0
        have f1 := GG.1.cell 1
        have f2 := GG.1.cell 2
        have h0 := GG.2.1.cell 0
        have h1 := GG.2.1.cell 1
        have h2 := GG.2.1.cell 2
        have h3 := GG.2.1.cell 3
        have h4 := GG.2.1.cell 4
        have h5 := GG.2.1.cell 5
        have h6 := GG.2.1.cell 6
        have h7 := GG.2.1.cell 7
        have h8 := GG.2.1.cell 8
        have h9 := GG.2.1.cell 9
        have h10 := GG.2.1.cell 10
        have h11 := GG.2.1.cell 11
        refine bodyPost_ret (v := .tuple #[.agg #[.int .u8 (k : Int), .int .u32 (id : Int), .int .u16 (code : Int), .bool last, .int .u64 (ep : Int), .int .u64 (fl : Int), .int .u64 (un : Int), .int .u64 (le : Int), .int .u64 (st : Int), .int .u64 (ti : Int), .slice Q n1 c1, .slice A3 j c3], .agg #[.slice A n c, .int .i64 (a2 : Int), .bool g2], .bool false]) ?_ rfl ⟨a2, g2, A3, c3, j, ha2, by rw [HF.out], by rw [HF.out]; exact HL.out.2, rfl, by rw [HF.out]; exact own_below GG.2.2.2 (Below.refl _ _).drew, GG.2.2.1.drew⟩
        simp [results, Tryz.results65, go_sem, f0, f1, f2, h0, h1, h2, h3, h4, h5, h6, h7, h8, h9, h10, h11]
end Go.Proofs.YtognlgklepgemaaGreat
