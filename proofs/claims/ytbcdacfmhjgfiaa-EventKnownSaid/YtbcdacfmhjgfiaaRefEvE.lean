/- Layer 6's reference: bytes parsed, as one operation. -/
import Derived.Test.YtbcdacfmhjgfiaaRefEvD
import Derived.Test.YtbcdacfmhjgfiaaRefEvB
import Derived.Test.YtbcdacfmhjgfiaaEvP
namespace Go.Proofs.Ytbcdacfmhjgfiaa
open Go.ChangeShapes Go.WideShapes Go.ChangeAt Go.RowKit

theorem next_let {n c a B : Nat} {A : Option Addr} {b : List Nat} {w : World} (hb : Bytes w B A n b) (hB : B ≤ w.heap.size) (hn : n ≤ 1000000) (ha : a ≤ n) (hc : n ≤ c) {r : Int} {o : Evo} {u q : Nat} (h : Ev.nx (b.drop a) = (r, o, u)) (hq : a + u = q) :
    Calls Try.prog 33 #[.slice A n c, .int .i64 (a : Int)] w fun e w' => e = .returned (.tuple #[.agg #[.int .u8 (o.k : Int), .string o.s, .int .i64 o.t, .int .i64 o.v], .int .i64 (q : Int), .int .i64 r]) ∧ Below w.heap.size w w' := by
  refine (refNext_any n c a B A b w hb hB hn ha hc).mono fun e w' hp => ?_
  unfold NextP at hp
  rw [h] at hp
  dsimp only at hp
  rw [hq] at hp
  exact hp
def PsP (w : World) (r : Int × Evo) (e : Ending) (w' : World) : Prop := e = .returned (.tuple #[.agg #[.int .u8 (r.2.k : Int), .string r.2.s, .int .i64 r.2.t, .int .i64 r.2.v], .int .i64 r.1]) ∧ Below w.heap.size w w'
set_option maxRecDepth 100000 in
set_option maxHeartbeats 2000000 in
theorem refParse_any (n c B : Nat) (A : Option Addr) (b : List Nat) (w : World) (hb : Bytes w B A n b) (hB : B ≤ w.heap.size) (hn : n ≤ 1000000) (hc : n ≤ c) : Calls Try.prog 19 #[.slice A n c] w (PsP w (Ev.ps b)) := by
  obtain ⟨r, o, u, hnx⟩ : ∃ r o u, Ev.nx b = (r, o, u) := ⟨_, _, _, rfl⟩
  have hlen := hb.1
  have HNX := Lib.hid (next_let (c := c) (hb.below (Below.refl _ _ |>.alloc (Nat.le_refl _) (.cells #[.int .u8 0, .string ⟨#[]⟩, .int .i64 0, .int .i64 0] 27)) hB) (by simp; omega) hn (Nat.zero_le _) hc (r := r) (o := o) (u := u) (q := u) (by simpa using hnx) (by omega))
  have S0 := Lib.hid ((Held.start w).new #[.int .u8 0, .string ⟨#[]⟩, .int .i64 0, .int .i64 0] 27)
  have hz : w.heap.size < (w.alloc (.cells #[.int .u8 0, .string ⟨#[]⟩, .int .i64 0, .int .i64 0] 27)).heap.size := by simp
  obtain ⟨W0, hW0⟩ : ∃ W, w.alloc (.cells #[.int .u8 0, .string ⟨#[]⟩, .int .i64 0, .int .i64 0] 27) = W := ⟨_, rfl⟩
  rw [hW0] at S0 HNX hz
  clear hb hB
  go_enter Try.func19, Try.ntmps19
  go_wp2_with fail
  clear hW0
  refine HNX.out.mono ?_
  rintro e w1 ⟨rfl, b1⟩
  have S1 := Lib.hid ((S0.out.step b1).new #[.int .u8 (o.k : Int), .string o.s, .int .i64 o.t, .int .i64 o.v] 27)
  have hz1 : w.heap.size < w1.heap.size := Nat.lt_of_lt_of_le hz b1.size
  have hps : Ev.ps b = if r ≠ 0 then (r, Ev.none') else if u < b.length then (21, Ev.none') else if Ev.right o ≠ 0 then (Ev.right o, Ev.none') else (0, o) := by unfold Ev.ps; rw [hnx]
  rw [hlen] at hps
  clear b1 hz HNX
  by_cases h1 : r = 0
  · subst h1
    rw [if_neg (by simp)] at hps
    by_cases h2 : u < n
    · have i1 : (u : Int) < n := by omega
      rw [if_pos h2] at hps
      go_upto_region 5 with (fail)
      obtain ⟨W1, hW⟩ : ∃ W, w1.alloc (.cells #[.int .u8 (o.k : Int), .string o.s, .int .i64 o.t, .int .i64 o.v] 27) = W := ⟨_, rfl⟩
      rw [hW] at S1 ⊢
      clear hW
      have HN := Lib.hid hps
      clear hps
      have kk := S1.out.at_ (List.mem_cons_of_mem _ (List.mem_cons_self ..))
      have q0 := kk.cell 0
      have qf0 := kk.frozen 0
      have q1 := kk.cell 1
      have qf1 := kk.frozen 1
      have q2 := kk.cell 2
      have qf2 := kk.frozen 2
      have q3 := kk.cell 3
      have qf3 := kk.frozen 3
      clear kk
      go_wp2_with fail
      clear q0 qf0 q1 qf1 q2 qf2 q3 qf3
      have s0 : Held w W1 [(w.heap.size, 27, (#[.int .u8 0, .string ⟨#[]⟩, .int .i64 0, .int .i64 0] : Array Value)), (w1.heap.size, 27, (#[.int .u8 (o.k : Int), .string o.s, .int .i64 o.t, .int .i64 o.v] : Array Value))] := S1.out.sub (by intro x hx; simp only [List.mem_cons, List.not_mem_nil, or_false] at hx ⊢; rcases hx with h | h <;> simp [h])
      have s1 : Held w ((((W1.setCell ⟨w.heap.size, 0, none⟩ (.int .u8 0)).setCell ⟨w.heap.size, 1, none⟩ (.string ⟨#[]⟩)).setCell ⟨w.heap.size, 2, none⟩ (.int .i64 0)).setCell ⟨w.heap.size, 3, none⟩ (.int .i64 0)) [(w.heap.size, 27, (#[.int .u8 0, .string ⟨#[]⟩, .int .i64 0, .int .i64 0] : Array Value)), (w1.heap.size, 27, (#[.int .u8 (o.k : Int), .string o.s, .int .i64 o.t, .int .i64 o.v] : Array Value))] := ((((s0.set1 (by omega) (by intro x hx; have h := List.mem_singleton.1 hx; rw [h]; show w1.heap.size ≠ w.heap.size; omega) 0 (.int .u8 0)).set1 (by omega) (by intro x hx; have h := List.mem_singleton.1 hx; rw [h]; show w1.heap.size ≠ w.heap.size; omega) 1 (.string ⟨#[]⟩)).set1 (by omega) (by intro x hx; have h := List.mem_singleton.1 hx; rw [h]; show w1.heap.size ≠ w.heap.size; omega) 2 (.int .i64 0)).set1 (by omega) (by intro x hx; have h := List.mem_singleton.1 hx; rw [h]; show w1.heap.size ≠ w.heap.size; omega) 3 (.int .i64 0))
      obtain ⟨W9, hW⟩ : ∃ W, ((((W1.setCell ⟨w.heap.size, 0, none⟩ (.int .u8 0)).setCell ⟨w.heap.size, 1, none⟩ (.string ⟨#[]⟩)).setCell ⟨w.heap.size, 2, none⟩ (.int .i64 0)).setCell ⟨w.heap.size, 3, none⟩ (.int .i64 0)) = W := ⟨_, rfl⟩
      rw [hW] at s1 ⊢
      have SF := Lib.hid s1
      clear hW s0 s1
      have hfin := SF.out.at_ (List.mem_cons_self ..)
      have f0 := hfin.cell 0
      have f1 := hfin.cell 1
      have f2 := hfin.cell 2
      have f3 := hfin.cell 3
      clear hfin
      refine bodyPost_ret (v := .tuple #[.agg #[.int .u8 0, .string ⟨#[]⟩, .int .i64 0, .int .i64 0], .int .i64 21]) ?_ rfl ?_
      · simp [results, Try.results19, go_sem, f0, f1, f2, f3]
      · unfold PsP
        rw [HN.out]
        exact ⟨rfl, SF.out.1⟩
    · have i1 : ¬ (u : Int) < n := by omega
      rw [if_neg h2] at hps
      have HPS := Lib.hid hps
      clear hps
      go_upto_region 6 with (fail)
      obtain ⟨W1, hW⟩ : ∃ W, w1.alloc (.cells #[.int .u8 (o.k : Int), .string o.s, .int .i64 o.t, .int .i64 o.v] 27) = W := ⟨_, rfl⟩
      rw [hW] at S1 ⊢
      clear hW
      have kk := S1.out.at_ (List.mem_cons_self ..)
      have q0 := kk.cell 0
      have qf0 := kk.frozen 0
      have q1 := kk.cell 1
      have qf1 := kk.frozen 1
      have q2 := kk.cell 2
      have qf2 := kk.frozen 2
      have q3 := kk.cell 3
      have qf3 := kk.frozen 3
      clear kk
      go_wp2_with fail
      clear q0 qf0 q1 qf1 q2 qf2 q3 qf3
      refine (refRight6_any o W1).mono ?_
      rintro e w2 ⟨rfl, b2⟩
      have S2 := Lib.hid (S1.out.step b2)
      clear b2
      by_cases h3 : Ev.right o = 0
      · rw [h3]
        have hps := HPS.out
        rw [if_neg (by simp [h3])] at hps
        have HN := Lib.hid hps
        clear hps
        have kk := S2.out.at_ (List.mem_cons_self ..)
        have p0 := kk.cell 0
        have pf0 := kk.frozen 0
        have p1 := kk.cell 1
        have pf1 := kk.frozen 1
        have p2 := kk.cell 2
        have pf2 := kk.frozen 2
        have p3 := kk.cell 3
        have pf3 := kk.frozen 3
        clear kk
        have kk := S2.out.at_ (List.mem_cons_of_mem _ (List.mem_cons_self ..))
        have q0 := kk.cell 0
        have qf0 := kk.frozen 0
        have q1 := kk.cell 1
        have qf1 := kk.frozen 1
        have q2 := kk.cell 2
        have qf2 := kk.frozen 2
        have q3 := kk.cell 3
        have qf3 := kk.frozen 3
        clear kk
        go_wp2_with fail
        clear p0 pf0 p1 pf1 p2 pf2 p3 pf3 q0 qf0 q1 qf1 q2 qf2 q3 qf3
        have s0 : Held w w2 [(w.heap.size, 27, (#[.int .u8 0, .string ⟨#[]⟩, .int .i64 0, .int .i64 0] : Array Value)), (w1.heap.size, 27, (#[.int .u8 (o.k : Int), .string o.s, .int .i64 o.t, .int .i64 o.v] : Array Value))] := S2.out.sub (by intro x hx; simp only [List.mem_cons, List.not_mem_nil, or_false] at hx ⊢; rcases hx with h | h <;> simp [h])
        have s1 : Held w ((((w2.setCell ⟨w.heap.size, 0, none⟩ (.int .u8 (o.k : Int))).setCell ⟨w.heap.size, 1, none⟩ (.string o.s)).setCell ⟨w.heap.size, 2, none⟩ (.int .i64 o.t)).setCell ⟨w.heap.size, 3, none⟩ (.int .i64 o.v)) [(w.heap.size, 27, (#[.int .u8 (o.k : Int), .string o.s, .int .i64 o.t, .int .i64 o.v] : Array Value)), (w1.heap.size, 27, (#[.int .u8 (o.k : Int), .string o.s, .int .i64 o.t, .int .i64 o.v] : Array Value))] := ((((s0.set1 (by omega) (by intro x hx; have h := List.mem_singleton.1 hx; rw [h]; show w1.heap.size ≠ w.heap.size; omega) 0 (.int .u8 (o.k : Int))).set1 (by omega) (by intro x hx; have h := List.mem_singleton.1 hx; rw [h]; show w1.heap.size ≠ w.heap.size; omega) 1 (.string o.s)).set1 (by omega) (by intro x hx; have h := List.mem_singleton.1 hx; rw [h]; show w1.heap.size ≠ w.heap.size; omega) 2 (.int .i64 o.t)).set1 (by omega) (by intro x hx; have h := List.mem_singleton.1 hx; rw [h]; show w1.heap.size ≠ w.heap.size; omega) 3 (.int .i64 o.v))
        obtain ⟨W9, hW⟩ : ∃ W, ((((w2.setCell ⟨w.heap.size, 0, none⟩ (.int .u8 (o.k : Int))).setCell ⟨w.heap.size, 1, none⟩ (.string o.s)).setCell ⟨w.heap.size, 2, none⟩ (.int .i64 o.t)).setCell ⟨w.heap.size, 3, none⟩ (.int .i64 o.v)) = W := ⟨_, rfl⟩
        rw [hW] at s1 ⊢
        have SF := Lib.hid s1
        clear hW s0 s1
        have hfin := SF.out.at_ (List.mem_cons_self ..)
        have f0 := hfin.cell 0
        have f1 := hfin.cell 1
        have f2 := hfin.cell 2
        have f3 := hfin.cell 3
        clear hfin
        refine bodyPost_ret (v := .tuple #[.agg #[.int .u8 (o.k : Int), .string o.s, .int .i64 o.t, .int .i64 o.v], .int .i64 0]) ?_ rfl ?_
        · simp [results, Try.results19, go_sem, f0, f1, f2, f3]
        · unfold PsP
          rw [HN.out]
          exact ⟨rfl, SF.out.1⟩
      · have i3 : (Ev.right o != 0) = true := by rw [bne_iff_ne]; exact h3
        have i4 : (Ev.right o == 0) = false := by rw [beq_eq_false_iff_ne]; exact h3
        have hps := HPS.out
        rw [if_pos h3] at hps
        have HN := Lib.hid hps
        clear hps
        have kk := S2.out.at_ (List.mem_cons_of_mem _ (List.mem_cons_self ..))
        have q0 := kk.cell 0
        have qf0 := kk.frozen 0
        have q1 := kk.cell 1
        have qf1 := kk.frozen 1
        have q2 := kk.cell 2
        have qf2 := kk.frozen 2
        have q3 := kk.cell 3
        have qf3 := kk.frozen 3
        clear kk
        go_wp2_with fail
        clear q0 qf0 q1 qf1 q2 qf2 q3 qf3
        have s0 : Held w w2 [(w.heap.size, 27, (#[.int .u8 0, .string ⟨#[]⟩, .int .i64 0, .int .i64 0] : Array Value)), (w1.heap.size, 27, (#[.int .u8 (o.k : Int), .string o.s, .int .i64 o.t, .int .i64 o.v] : Array Value))] := S2.out.sub (by intro x hx; simp only [List.mem_cons, List.not_mem_nil, or_false] at hx ⊢; rcases hx with h | h <;> simp [h])
        have s1 : Held w ((((w2.setCell ⟨w.heap.size, 0, none⟩ (.int .u8 0)).setCell ⟨w.heap.size, 1, none⟩ (.string ⟨#[]⟩)).setCell ⟨w.heap.size, 2, none⟩ (.int .i64 0)).setCell ⟨w.heap.size, 3, none⟩ (.int .i64 0)) [(w.heap.size, 27, (#[.int .u8 0, .string ⟨#[]⟩, .int .i64 0, .int .i64 0] : Array Value)), (w1.heap.size, 27, (#[.int .u8 (o.k : Int), .string o.s, .int .i64 o.t, .int .i64 o.v] : Array Value))] := ((((s0.set1 (by omega) (by intro x hx; have h := List.mem_singleton.1 hx; rw [h]; show w1.heap.size ≠ w.heap.size; omega) 0 (.int .u8 0)).set1 (by omega) (by intro x hx; have h := List.mem_singleton.1 hx; rw [h]; show w1.heap.size ≠ w.heap.size; omega) 1 (.string ⟨#[]⟩)).set1 (by omega) (by intro x hx; have h := List.mem_singleton.1 hx; rw [h]; show w1.heap.size ≠ w.heap.size; omega) 2 (.int .i64 0)).set1 (by omega) (by intro x hx; have h := List.mem_singleton.1 hx; rw [h]; show w1.heap.size ≠ w.heap.size; omega) 3 (.int .i64 0))
        obtain ⟨W9, hW⟩ : ∃ W, ((((w2.setCell ⟨w.heap.size, 0, none⟩ (.int .u8 0)).setCell ⟨w.heap.size, 1, none⟩ (.string ⟨#[]⟩)).setCell ⟨w.heap.size, 2, none⟩ (.int .i64 0)).setCell ⟨w.heap.size, 3, none⟩ (.int .i64 0)) = W := ⟨_, rfl⟩
        rw [hW] at s1 ⊢
        have SF := Lib.hid s1
        clear hW s0 s1
        have hfin := SF.out.at_ (List.mem_cons_self ..)
        have f0 := hfin.cell 0
        have f1 := hfin.cell 1
        have f2 := hfin.cell 2
        have f3 := hfin.cell 3
        clear hfin
        refine bodyPost_ret (v := .tuple #[.agg #[.int .u8 0, .string ⟨#[]⟩, .int .i64 0, .int .i64 0], .int .i64 (Ev.right o)]) ?_ rfl ?_
        · simp [results, Try.results19, go_sem, f0, f1, f2, f3]
        · unfold PsP
          rw [HN.out]
          exact ⟨rfl, SF.out.1⟩
  · have i3 : (r != 0) = true := by rw [bne_iff_ne]; exact h1
    have i4 : (r == 0) = false := by rw [beq_eq_false_iff_ne]; exact h1
    rw [if_pos h1] at hps
    go_upto_region 3 with (fail)
    obtain ⟨W1, hW⟩ : ∃ W, w1.alloc (.cells #[.int .u8 (o.k : Int), .string o.s, .int .i64 o.t, .int .i64 o.v] 27) = W := ⟨_, rfl⟩
    rw [hW] at S1 ⊢
    clear hW
    have HN := Lib.hid hps
    clear hps
    have kk := S1.out.at_ (List.mem_cons_of_mem _ (List.mem_cons_self ..))
    have q0 := kk.cell 0
    have qf0 := kk.frozen 0
    have q1 := kk.cell 1
    have qf1 := kk.frozen 1
    have q2 := kk.cell 2
    have qf2 := kk.frozen 2
    have q3 := kk.cell 3
    have qf3 := kk.frozen 3
    clear kk
    go_wp2_with fail
    clear q0 qf0 q1 qf1 q2 qf2 q3 qf3
    have s0 : Held w W1 [(w.heap.size, 27, (#[.int .u8 0, .string ⟨#[]⟩, .int .i64 0, .int .i64 0] : Array Value)), (w1.heap.size, 27, (#[.int .u8 (o.k : Int), .string o.s, .int .i64 o.t, .int .i64 o.v] : Array Value))] := S1.out.sub (by intro x hx; simp only [List.mem_cons, List.not_mem_nil, or_false] at hx ⊢; rcases hx with h | h <;> simp [h])
    have s1 : Held w ((((W1.setCell ⟨w.heap.size, 0, none⟩ (.int .u8 0)).setCell ⟨w.heap.size, 1, none⟩ (.string ⟨#[]⟩)).setCell ⟨w.heap.size, 2, none⟩ (.int .i64 0)).setCell ⟨w.heap.size, 3, none⟩ (.int .i64 0)) [(w.heap.size, 27, (#[.int .u8 0, .string ⟨#[]⟩, .int .i64 0, .int .i64 0] : Array Value)), (w1.heap.size, 27, (#[.int .u8 (o.k : Int), .string o.s, .int .i64 o.t, .int .i64 o.v] : Array Value))] := ((((s0.set1 (by omega) (by intro x hx; have h := List.mem_singleton.1 hx; rw [h]; show w1.heap.size ≠ w.heap.size; omega) 0 (.int .u8 0)).set1 (by omega) (by intro x hx; have h := List.mem_singleton.1 hx; rw [h]; show w1.heap.size ≠ w.heap.size; omega) 1 (.string ⟨#[]⟩)).set1 (by omega) (by intro x hx; have h := List.mem_singleton.1 hx; rw [h]; show w1.heap.size ≠ w.heap.size; omega) 2 (.int .i64 0)).set1 (by omega) (by intro x hx; have h := List.mem_singleton.1 hx; rw [h]; show w1.heap.size ≠ w.heap.size; omega) 3 (.int .i64 0))
    obtain ⟨W9, hW⟩ : ∃ W, ((((W1.setCell ⟨w.heap.size, 0, none⟩ (.int .u8 0)).setCell ⟨w.heap.size, 1, none⟩ (.string ⟨#[]⟩)).setCell ⟨w.heap.size, 2, none⟩ (.int .i64 0)).setCell ⟨w.heap.size, 3, none⟩ (.int .i64 0)) = W := ⟨_, rfl⟩
    rw [hW] at s1 ⊢
    have SF := Lib.hid s1
    clear hW s0 s1
    have hfin := SF.out.at_ (List.mem_cons_self ..)
    have f0 := hfin.cell 0
    have f1 := hfin.cell 1
    have f2 := hfin.cell 2
    have f3 := hfin.cell 3
    clear hfin
    refine bodyPost_ret (v := .tuple #[.agg #[.int .u8 0, .string ⟨#[]⟩, .int .i64 0, .int .i64 0], .int .i64 r]) ?_ rfl ?_
    · simp [results, Try.results19, go_sem, f0, f1, f2, f3]
    · unfold PsP
      rw [HN.out]
      exact ⟨rfl, SF.out.1⟩
end Go.Proofs.Ytbcdacfmhjgfiaa
