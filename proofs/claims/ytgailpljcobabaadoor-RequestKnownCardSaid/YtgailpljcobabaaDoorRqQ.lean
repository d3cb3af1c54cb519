/- Layer 9's reference: its reader's number and text; Done; Id. -/
import Derived.Test.YtgailpljcobabaaDoorRqG
import Derived.Test.YtgailpljcobabaaDoorRd6
namespace Go.Proofs.YtgailpljcobabaaDoor
open Go.ChangeShapes Go.WideShapes Go.ChangeAt Go.RowKit

theorem Held.put9 {w W : World} {l : List (Nat × TypeId × Array Value)} {g T : Nat} {cs : Array Value} (h : Held w W ((g, T, cs) :: l)) (hg : w.heap.size ≤ g) (hl : ∀ x ∈ l, x.1 ≠ g) (i : Nat) (u : Value) : Held w (W.setCell ⟨g, i, none⟩ u) ((g, T, cs.setIfInBounds i u) :: l) := by
  refine ⟨h.1.setCell (p := ⟨g, i, none⟩) hg u, fun x hx => ?_⟩
  rcases List.mem_cons.1 hx with rfl | hx
  · exact (h.2 _ (List.mem_cons_self ..)).set_ i u
  · exact (h.2 x (List.mem_cons_of_mem _ hx)).far (by have := hl x hx; omega) u
theorem Held.three9 {w W : World} {l : List (Nat × TypeId × Array Value)} {g T : Nat} {x y z : Value} (h : Held w W ((g, T, #[x, y, z]) :: l)) (hg : w.heap.size ≤ g) (hl : ∀ x ∈ l, x.1 ≠ g) (x' y' z' : Value) : Held w (((W.setCell ⟨g, 0, none⟩ x').setCell ⟨g, 1, none⟩ y').setCell ⟨g, 2, none⟩ z') ((g, T, #[x', y', z']) :: l) :=
  ((h.put9 hg hl 0 x').put9 hg hl 1 y').put9 hg hl 2 z'
theorem Rq.nx_goes (b : List Nat) (a : Nat) (f : Bool) (k : Nat) : Rq.nx (b.drop a, f) k = (b.drop (goes f (b.drop a) a k), Pk.fails f (b.drop a) k) := by
  unfold Rq.nx
  cases h : Pk.fails f (b.drop a) k
  · rw [goes_no h]
    refine Prod.ext ?_ rfl
    show Pk.left f (b.drop a) k = _
    unfold Pk.left
    rw [if_neg (by rw [h]; decide), List.drop_drop]
  · rw [goes_yes h]
    refine Prod.ext ?_ rfl
    show Pk.left f (b.drop a) k = _
    unfold Pk.left
    rw [if_pos h]
theorem Rq.tx_goes (b : List Nat) (a : Nat) (f : Bool) : Rq.tx (b.drop a, f) = (b.drop (tgoes f (b.drop a) a), Pk.tfails f (b.drop a)) := by
  unfold Rq.tx
  cases h : Pk.tfails f (b.drop a)
  · rw [tgoes_no h]
    refine Prod.ext ?_ rfl
    show Pk.tleft f (b.drop a) = _
    unfold Pk.tleft
    rw [if_neg (by rw [h]; decide), List.drop_drop]
  · rw [tgoes_yes h]
    refine Prod.ext ?_ rfl
    show Pk.tleft f (b.drop a) = _
    unfold Pk.tleft
    rw [if_pos h]
theorem Rq.goes_le {b : List Nat} {a n k : Nat} (f : Bool) (hl : b.length = n) (ha : a ≤ n) : goes f (b.drop a) a k ≤ n := by
  unfold goes
  split
  · exact ha
  · rename_i h
    have h : Pk.fails f (b.drop a) k = false := by simpa using h
    have := (Pk.fails_iff.1 h).2
    rw [List.length_drop] at this
    omega
theorem Rq.tgoes_le {b : List Nat} {a n : Nat} (f : Bool) (hl : b.length = n) (ha : a ≤ n) : tgoes f (b.drop a) a ≤ n := by
  unfold tgoes
  split
  · exact ha
  · rename_i h
    have h : Pk.tfails f (b.drop a) = false := by simpa using h
    obtain ⟨h1, h2⟩ := Pk.tfails_iff.1 h
    have h3 := (Pk.fails_iff.1 h1).2
    rw [List.length_drop] at h2 h3
    omega
/-- The document's reader of b at g, to which s is left; and a request at R, filled so far. -/
def Rr (w W : World) (A : Option Addr) (n c : Nat) (b : List Nat) (g : Nat) (s : Rq.St) (l : List (Nat × TypeId × Array Value)) : Prop := ∃ a f, a ≤ n ∧ s = (b.drop a, f) ∧ w.heap.size ≤ g ∧ (∀ x ∈ l, x.1 ≠ g) ∧ Held w W ((g, 77, #[.slice A n c, .int .i64 (a : Int), .bool f]) :: l)
set_option maxRecDepth 100000 in
set_option maxHeartbeats 2000000 in
theorem number9_any (n c B k g : Nat) (A : Option Addr) (b : List Nat) (s : Rq.St) (l : List (Nat × TypeId × Array Value)) (w0 w : World) (hb : Bytes w0 B A n b) (hB : B ≤ w0.heap.size) (hn : n ≤ 1000000) (hk : k ≤ 8) (h : Rr w0 w A n c b g s l) :
    Calls Tryd.prog 42 #[.pointer (some ⟨g, 0, none⟩), .int .i64 (k : Int)] w fun e w' => e = .returned (.int .u64 ((Rq.vl s k : Nat) : Int)) ∧ Rr w0 w' A n c b g (Rq.nx s k) l := by
  obtain ⟨a, f, ha, rfl, hg, hl, hH⟩ := h
  have CT := Lib.hid (refTake_any n c a k B A b f w (hb.below hH.1 hB) (Nat.le_trans hB hH.1.size) hn ha hk)
  have kk := hH.top
  have p0 := kk.cell 0
  have p1 := kk.cell 1
  have p2 := kk.cell 2
  have HH := Lib.hid hH
  have HL := Lib.hid hb.1
  clear kk hb hH hB
  go_enter Tryd.func42, Tryd.ntmps42
  go_wp2_with fail
  clear p0 p1 p2
  refine CT.out.mono ?_
  rintro e w1 ⟨rfl, b1⟩
  have S1 := HH.out.step b1
  have q0 := S1.top.cell 0
  have q1 := S1.top.cell 1
  have q2 := S1.top.cell 2
  have f0 := S1.top.frozen 0
  have f1 := S1.top.frozen 1
  have f2 := S1.top.frozen 2
  have hgl : g < w1.heap.size := S1.top.lt
  have H1 := Lib.hid S1
  clear S1 b1 CT
  go_wp2_with fail
  go_ret
  exact ⟨rfl, _, _, Rq.goes_le f HL.out ha, Rq.nx_goes b a f k, hg, hl, (H1.out.three9 hg hl _ _ _).step ((Below.refl _ _).alloc (Nat.le_refl _) _)⟩
set_option maxRecDepth 100000 in
set_option maxHeartbeats 2000000 in
theorem text9_any (n c B g : Nat) (A : Option Addr) (b : List Nat) (s : Rq.St) (l : List (Nat × TypeId × Array Value)) (w0 w : World) (hb : Bytes w0 B A n b) (hB : B ≤ w0.heap.size) (hn : n ≤ 1000000) (hnc : n ≤ c) (h : Rr w0 w A n c b g s l) :
    Calls Tryd.prog 43 #[.pointer (some ⟨g, 0, none⟩)] w fun e w' => e = .returned (.string (Rq.tt s)) ∧ Rr w0 w' A n c b g (Rq.tx s) l := by
  obtain ⟨a, f, ha, rfl, hg, hl, hH⟩ := h
  have CT := Lib.hid (refTakeText_any n c a B A b f w (hb.below hH.1 hB) (Nat.le_trans hB hH.1.size) hn ha hnc)
  have kk := hH.top
  have p0 := kk.cell 0
  have p1 := kk.cell 1
  have p2 := kk.cell 2
  have HH := Lib.hid hH
  have HL := Lib.hid hb.1
  clear kk hb hH hB
  go_enter Tryd.func43, Tryd.ntmps43
  go_wp2_with fail
  clear p0 p1 p2
  refine CT.out.mono ?_
  rintro e w1 ⟨rfl, b1⟩
  have S1 := HH.out.step b1
  have q0 := S1.top.cell 0
  have q1 := S1.top.cell 1
  have q2 := S1.top.cell 2
  have f0 := S1.top.frozen 0
  have f1 := S1.top.frozen 1
  have f2 := S1.top.frozen 2
  have hgl : g < w1.heap.size := S1.top.lt
  have H1 := Lib.hid S1
  clear S1 b1 CT
  go_wp2_with fail
  go_ret
  exact ⟨rfl, _, _, Rq.tgoes_le f HL.out ha, Rq.tx_goes b a f, hg, hl, (H1.out.three9 hg hl _ _ _).step ((Below.refl _ _).alloc (Nat.le_refl _) _)⟩
theorem num9_1 {n c B g : Nat} {A : Option Addr} {b : List Nat} {s : Rq.St} {l : List (Nat × TypeId × Array Value)} {w0 w : World} (hb : Bytes w0 B A n b) (hB : B ≤ w0.heap.size) (hn : n ≤ 1000000) (h : Rr w0 w A n c b g s l) :
    Calls Tryd.prog 42 #[.pointer (some ⟨g, 0, none⟩), .int .i64 1] w fun e w' => e = .returned (.int .u64 ((Rq.vl s 1 : Nat) : Int)) ∧ Rr w0 w' A n c b g (Rq.nx s 1) l := number9_any n c B 1 g A b s l w0 w hb hB hn (by omega) h
theorem num9_2 {n c B g : Nat} {A : Option Addr} {b : List Nat} {s : Rq.St} {l : List (Nat × TypeId × Array Value)} {w0 w : World} (hb : Bytes w0 B A n b) (hB : B ≤ w0.heap.size) (hn : n ≤ 1000000) (h : Rr w0 w A n c b g s l) :
    Calls Tryd.prog 42 #[.pointer (some ⟨g, 0, none⟩), .int .i64 2] w fun e w' => e = .returned (.int .u64 ((Rq.vl s 2 : Nat) : Int)) ∧ Rr w0 w' A n c b g (Rq.nx s 2) l := number9_any n c B 2 g A b s l w0 w hb hB hn (by omega) h
theorem num9_4 {n c B g : Nat} {A : Option Addr} {b : List Nat} {s : Rq.St} {l : List (Nat × TypeId × Array Value)} {w0 w : World} (hb : Bytes w0 B A n b) (hB : B ≤ w0.heap.size) (hn : n ≤ 1000000) (h : Rr w0 w A n c b g s l) :
    Calls Tryd.prog 42 #[.pointer (some ⟨g, 0, none⟩), .int .i64 4] w fun e w' => e = .returned (.int .u64 ((Rq.vl s 4 : Nat) : Int)) ∧ Rr w0 w' A n c b g (Rq.nx s 4) l := number9_any n c B 4 g A b s l w0 w hb hB hn (by omega) h
theorem num9_8 {n c B g : Nat} {A : Option Addr} {b : List Nat} {s : Rq.St} {l : List (Nat × TypeId × Array Value)} {w0 w : World} (hb : Bytes w0 B A n b) (hB : B ≤ w0.heap.size) (hn : n ≤ 1000000) (h : Rr w0 w A n c b g s l) :
    Calls Tryd.prog 42 #[.pointer (some ⟨g, 0, none⟩), .int .i64 8] w fun e w' => e = .returned (.int .u64 ((Rq.vl s 8 : Nat) : Int)) ∧ Rr w0 w' A n c b g (Rq.nx s 8) l := number9_any n c B 8 g A b s l w0 w hb hB hn (by omega) h
theorem Rr.put {w W : World} {A : Option Addr} {n c g R : Nat} {b : List Nat} {s : Rq.St} {cs : Array Value} (h : Rr w W A n c b g s [(R, 33, cs)]) (hR : w.heap.size ≤ R) (i : Nat) (u : Value) : Rr w (W.setCell ⟨R, i, none⟩ u) A n c b g s [(R, 33, cs.setIfInBounds i u)] := by
  obtain ⟨a, f, ha, hs, hg, hl, hH⟩ := h
  have hne : R ≠ g := hl (R, 33, cs) (List.mem_cons_self ..)
  refine ⟨a, f, ha, hs, hg, fun x hx => ?_, ?_⟩
  · obtain rfl : x = (R, 33, cs.setIfInBounds i u) := by simpa using hx
    exact hne
  · have h1 : Held w W [(R, 33, cs), (g, 77, #[.slice A n c, .int .i64 (a : Int), .bool f])] := ⟨hH.1, fun x hx => hH.2 x (by simp only [List.mem_cons, List.not_mem_nil, or_false] at hx ⊢; rcases hx with h | h <;> simp [h])⟩
    have h2 := h1.put9 hR (fun x hx e => by rcases List.mem_cons.1 hx with rfl | hx; exact hne e.symm; cases hx) i u
    exact ⟨h2.1, fun x hx => h2.2 x (by simp only [List.mem_cons, List.not_mem_nil, or_false] at hx ⊢; rcases hx with h | h <;> simp [h])⟩
theorem Rr.step {w W W' : World} {A : Option Addr} {n c g : Nat} {b : List Nat} {s : Rq.St} {l : List (Nat × TypeId × Array Value)} (h : Rr w W A n c b g s l) (hW : Below W.heap.size W W') : Rr w W' A n c b g s l := by
  obtain ⟨a, f, ha, hs, hg, hl, hH⟩ := h
  exact ⟨a, f, ha, hs, hg, hl, hH.step hW⟩
theorem Rr.blk {w W : World} {A : Option Addr} {n c g R : Nat} {b : List Nat} {s : Rq.St} {cs : Array Value} (h : Rr w W A n c b g s [(R, 33, cs)]) : Blk W R 33 cs := by
  obtain ⟨a, f, ha, hs, hg, hl, hH⟩ := h
  exact hH.2 _ (List.mem_cons_of_mem _ (List.mem_cons_self ..))
theorem Rr.bel {w W : World} {A : Option Addr} {n c g : Nat} {b : List Nat} {s : Rq.St} {l : List (Nat × TypeId × Array Value)} (h : Rr w W A n c b g s l) : Below w.heap.size w W := by
  obtain ⟨a, f, ha, hs, hg, hl, hH⟩ := h
  exact hH.1
theorem refDone9_any (n c a : Nat) (A : Option Addr) (f : Bool) (w : World) (ha : a ≤ n) :
    Calls Tryd.prog 44 #[rv A n c a f] w fun e w' => e = .returned (.int .i64 (doneOf f (n - a))) ∧ Below w.heap.size w w' := by
  unfold rv
  rcases Bool.eq_false_or_eq_true f with rfl | rfl
  · go_enter Tryd.func44, Tryd.ntmps44
    go_wp2_with fail
    go_ret
    exact ⟨rfl, (Below.refl _ _).alloc (Nat.le_refl _) _⟩
  · by_cases h : a < n
    · have HD := Lib.hid (show doneOf false (n - a) = 21 from by unfold doneOf; rw [if_neg (by decide), if_pos (by omega)])
      go_enter Tryd.func44, Tryd.ntmps44
      go_wp2_with fail
      go_ret
      exact ⟨by rw [HD.out]; rfl, (Below.refl _ _).alloc (Nat.le_refl _) _⟩
    · have HD := Lib.hid (show doneOf false (n - a) = 0 from by unfold doneOf; rw [if_neg (by decide), if_neg (by omega)])
      go_enter Tryd.func44, Tryd.ntmps44
      go_wp2_with fail
      go_ret
      exact ⟨by rw [HD.out]; rfl, (Below.refl _ _).alloc (Nat.le_refl _) _⟩
theorem refId_any (n c B : Nat) (A : Option Addr) (b : List Nat) (w : World) (hb : Bytes w B A n b) (hB : B ≤ w.heap.size) (hn : n ≤ 1000000) : Calls Tryd.prog 22 #[.slice A n c] w fun e w' => e = .returned (.int .u32 ((Rq.idOf b : Nat) : Int)) ∧ Below w.heap.size w w' := by
  by_cases h5 : n < 5
  · have e1 : Rq.idOf b = 0 := if_pos (by rw [hb.1]; exact h5)
    rw [e1]
    have i1 : (n : Int) < 5 := by omega
    clear hb
    go_enter Tryd.func22, Tryd.ntmps22
    go_wp2_with fail
    go_ret
    exact ⟨rfl, Below.refl _ _⟩
  · have e1 : Rq.idOf b = Pk.num ((b.drop 1).take 4) := if_neg (by rw [hb.1]; exact h5)
    have i1 : ¬ (n : Int) < 5 := by omega
    have HC := Lib.hid (refTake_any n c 1 4 B A b false w hb hB hn (by omega) (by omega))
    have HL := Lib.hid hb.1
    have h256 : Pk.num ((b.drop 1).take 4) < 4294967296 := by
      have h1 := Pk.taken_num_lt false (b.drop 1) 4 (fun y hy => hb.2.1 y (List.mem_of_mem_drop hy))
      rw [Pk.taken_no (Pk.fails_no (by rw [List.length_drop, hb.1]; omega))] at h1
      exact h1
    have ev : Pk.num (Pk.taken false (b.drop 1) 4) = Pk.num ((b.drop 1).take 4) := by
      rw [Pk.taken_no (Pk.fails_no (by rw [List.length_drop, hb.1]; omega))]
    obtain ⟨v, hv⟩ : ∃ v, Pk.num ((b.drop 1).take 4) = v := ⟨_, rfl⟩
    rw [hv] at h256 ev e1
    have HV := Lib.hid ev
    have hm : (v : Int) % 4294967296 = v := Int.emod_eq_of_lt (by omega) (by omega)
    rw [e1]
    clear hb e1 ev hB hv
    go_enter Tryd.func22, Tryd.ntmps22
    go_wp2_with fail
    refine HC.out.mono ?_
    rintro e w1 ⟨rfl, b1⟩
    rw [HV.out]
    go_wp2_with fail
    go_ret
    exact ⟨rfl, b1.alloc b1.size _⟩
theorem sg_w9 (v : Nat) : sg v = wrap64 (v : Int) := by
  unfold sg wrap64
  rw [IntKind.wrap_i64]
theorem rq_step2 {x : Rq.V} {s s' : Rq.St} {v : Nat} (hv : Rq.vl s 1 = v) (hs : Rq.nx s 1 = s') : Rq.Sg.step ⟨x, s⟩ 2 = ⟨{ x with pg := v }, s'⟩ := by subst hv hs; rfl
theorem rq_step3 {x : Rq.V} {s s' : Rq.St} {v : Nat} (hv : Rq.vl s 2 = v) (hs : Rq.nx s 2 = s') : Rq.Sg.step ⟨x, s⟩ 3 = ⟨{ x with du := v }, s'⟩ := by subst hv hs; rfl
theorem rq_step4 {x : Rq.V} {s s' : Rq.St} {v : Nat} (hv : Rq.vl s 8 = v) (hs : Rq.nx s 8 = s') : Rq.Sg.step ⟨x, s⟩ 4 = ⟨{ x with at_ := v }, s'⟩ := by subst hv hs; rfl
theorem rq_step5 {x : Rq.V} {s s' : Rq.St} {v : Nat} (hv : Rq.vl s 8 = v) (hs : Rq.nx s 8 = s') : Rq.Sg.step ⟨x, s⟩ 5 = ⟨{ x with le := v }, s'⟩ := by subst hv hs; rfl
theorem rq_step6 {x : Rq.V} {s s' : Rq.St} {v : Nat} (hv : Rq.vl s 1 = v) (hs : Rq.nx s 1 = s') : Rq.Sg.step ⟨x, s⟩ 6 = ⟨{ x with so := v }, s'⟩ := by subst hv hs; rfl
theorem rq_step7 {x : Rq.V} {s s' : Rq.St} {v : ByteArray} (hv : Rq.tt s = v) (hs : Rq.tx s = s') : Rq.Sg.step ⟨x, s⟩ 7 = ⟨{ x with ky := v }, s'⟩ := by subst hv hs; rfl
theorem rq_step8 {x : Rq.V} {s s' : Rq.St} {v : ByteArray} (hv : Rq.tt s = v) (hs : Rq.tx s = s') : Rq.Sg.step ⟨x, s⟩ 8 = ⟨{ x with to := v }, s'⟩ := by subst hv hs; rfl
theorem rq_step9 {x : Rq.V} {s s' : Rq.St} {v : Nat} {y : Int} (hv : Rq.vl s 8 = v) (hs : Rq.nx s 8 = s') (hy : sg v = y) : Rq.Sg.step ⟨x, s⟩ 9 = ⟨{ x with lo := y }, s'⟩ := by subst hv hs hy; rfl
theorem rq_step10 {x : Rq.V} {s s' : Rq.St} {v : Nat} {y : Int} (hv : Rq.vl s 8 = v) (hs : Rq.nx s 8 = s') (hy : sg v = y) : Rq.Sg.step ⟨x, s⟩ 10 = ⟨{ x with hi := y }, s'⟩ := by subst hv hs hy; rfl
theorem rr_lt {w W : World} {A : Option Addr} {n c g : Nat} {b : List Nat} {s : Rq.St} {l : List (Nat × TypeId × Array Value)} (h : Rr w W A n c b g s l) : g < W.heap.size := by
  obtain ⟨a, f, ha, hs, hg, hl, hH⟩ := h
  exact hH.top.lt
theorem rr_top {w W : World} {A : Option Addr} {n c g : Nat} {b : List Nat} {s : Rq.St} {l : List (Nat × TypeId × Array Value)} (h : Rr w W A n c b g s l) : ∃ a f, a ≤ n ∧ s = (b.drop a, f) ∧ Blk W g 77 #[.slice A n c, .int .i64 (a : Int), .bool f] := by
  obtain ⟨a, f, ha, hs, hg, hl, hH⟩ := h
  exact ⟨a, f, ha, hs, hH.top⟩
theorem rr_new {w W : World} {A : Option Addr} {n c g : Nat} {b : List Nat} {s : Rq.St} (h : Rr w W A n c b g s []) (cs : Array Value) (t : TypeId) : Rr w (W.alloc (.cells cs t)) A n c b g s [(W.heap.size, t, cs)] := by
  have hlt := rr_lt h
  obtain ⟨a, f, ha, hs, hg, hl, hH⟩ := h
  refine ⟨a, f, ha, hs, hg, fun x hx => ?_, ?_⟩
  · obtain rfl : x = (W.heap.size, t, cs) := by simpa using hx
    dsimp only
    omega
  · have h1 := hH.new cs t
    exact ⟨h1.1, fun x hx => h1.2 x (by simp only [List.mem_cons, List.not_mem_nil, or_false] at hx ⊢; rcases hx with h | h <;> simp [h])⟩
end Go.Proofs.YtgailpljcobabaaDoor
