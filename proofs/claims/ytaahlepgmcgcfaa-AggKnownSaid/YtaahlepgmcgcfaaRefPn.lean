/- Layer 5's reference: panes compared; an aggregate that is right. -/
import Derived.Test.YtaahlepgmcgcfaaTxt
import Derived.Test.YtaahlepgmcgcfaaAg
import Derived.Laws.StructEq
namespace Go.Proofs.Ytaahlepgmcgcfaa
open Go.ChangeShapes Go.WideShapes Go.ChangeAt Go.RowKit

/-- Numbers compared. -/
def icmp (a b : Int) : Int := if a < b then -1 else if b < a then 1 else 0
/-- A pane: its key, its start, its end. -/
structure Pn where
  k : ByteArray
  s : Int
  e : Int
def Pn.val (p : Pn) : Value := .agg #[.string p.k, .int .i64 p.s, .int .i64 p.e]
def prim (p q : Pn) : Int := if Ky.cmp (nums p.k) (nums q.k) = 0 then (if icmp p.e q.e = 0 then icmp p.s q.s else icmp p.e q.e) else Ky.cmp (nums p.k) (nums q.k)
def sec (p q : Pn) : Int := if icmp p.e q.e = 0 then prim p q else icmp p.e q.e
def RetP (w : World) (n : Int) (e : Ending) (w' : World) : Prop := e = .returned (.int .i64 n) ∧ Below w.heap.size w w'
def ordB (l m : Bool) : Int := if l then -1 else if m then 1 else 0
theorem order_any (l m : Bool) (w : World) : Calls Try.prog 32 #[.bool l, .bool m] w fun e w' => e = .returned (.int .i64 (ordB l m)) ∧ w' = w := by
  cases l <;> cases m
  all_goals
    go_enter Try.func32, Try.ntmps32
    go_wp2_with fail
    go_ret
    exact ⟨rfl, rfl⟩
theorem ordB_t (m : Bool) : ordB true m = -1 := rfl
theorem ordB_ft : ordB false true = 1 := rfl
theorem ordB_ff : ordB false false = 0 := rfl
set_option maxRecDepth 100000 in
set_option maxHeartbeats 1000000 in
theorem primary_any (p q : Pn) (w : World) : Calls Try.prog 13 #[p.val, q.val] w (RetP w (prim p q)) := by
  have hb : ∀ (o o' : Obj), Below w.heap.size w ((w.alloc o).alloc o') := fun o o' => ((Below.refl _ _).alloc (Nat.le_refl _) _).alloc (by simp) _
  have HB := Lib.hid hb
  clear hb
  unfold Pn.val
  obtain ⟨k1, s1, e1⟩ := p
  obtain ⟨k2, s2, e2⟩ := q
  dsimp only
  have t1 := text_cmp k1 k2
  have t2 := text_cmp k2 k1
  rw [Ky.cmp_swap (nums k1) (nums k2)] at t2
  rcases Ky.cmp_three (nums k1) (nums k2) with h | h | h
  · have e : prim ⟨k1, s1, e1⟩ ⟨k2, s2, e2⟩ = -1 := by simp [prim, h]
    have hs := text_ne (a := k1) (b := k2) (by intro e; rw [e, Ky.cmp_refl] at h; simp at h)
    rw [h] at t1 t2
    rw [e]
    simp at t1 t2
    clear h e
    go_enter Try.func13, Try.ntmps13
    go_wp2_with (go_at_call 32; (with_reducible refine (order_any _ _ _).mono ?_); rintro e w' ⟨rfl, rfl⟩; rw [ordB_t])
    go_ret
    exact ⟨rfl, HB.out _ _⟩
  · have hs := nums_inj (Ky.cmp_eq h)
    subst hs
    have e : prim ⟨k1, s1, e1⟩ ⟨k1, s2, e2⟩ = if icmp e1 e2 = 0 then icmp s1 s2 else icmp e1 e2 := by simp [prim, h]
    rw [e]
    clear h e t1 t2
    rcases Int.lt_trichotomy e1 e2 with h | h | h
    · have e : icmp e1 e2 = -1 := by unfold icmp; rw [if_pos h]
      rw [e]
      clear e
      have hn : (e1 == e2) = false := by rw [beq_eq_false_iff_ne]; omega
      have hd : decide (e1 < e2) = true := decide_eq_true h
      go_enter Try.func13, Try.ntmps13
      go_wp2_with (go_at_call 32; (with_reducible refine (order_any _ _ _).mono ?_); rintro e w' ⟨rfl, rfl⟩; rw [ordB_t])
      go_ret
      exact ⟨rfl, HB.out _ _⟩
    · subst h
      have e : icmp e1 e1 = 0 := by unfold icmp; rw [if_neg (by omega), if_neg (by omega)]
      rw [e, if_pos rfl]
      clear e
      rcases Int.lt_trichotomy s1 s2 with h | h | h
      · have e : icmp s1 s2 = -1 := by unfold icmp; rw [if_pos h]
        rw [e]
        clear e
        have h2 : ¬ s2 < s1 := by omega
        have hd : decide (s1 < s2) = true := decide_eq_true h
        go_enter Try.func13, Try.ntmps13
        go_wp2_with (go_at_call 32; (with_reducible refine (order_any _ _ _).mono ?_); rintro e w' ⟨rfl, rfl⟩; rw [ordB_t])
        go_ret
        exact ⟨rfl, HB.out _ _⟩
      · subst h
        have e : icmp s1 s1 = 0 := by unfold icmp; rw [if_neg (by omega), if_neg (by omega)]
        rw [e]
        clear e
        go_enter Try.func13, Try.ntmps13
        go_wp2_with (go_at_call 32; (with_reducible refine (order_any _ _ _).mono ?_); rintro e w' ⟨rfl, rfl⟩; rw [ordB_ff])
        go_ret
        exact ⟨rfl, HB.out _ _⟩
      · have e : icmp s1 s2 = 1 := by unfold icmp; rw [if_neg (by omega), if_pos h]
        rw [e]
        clear e
        have h2 : ¬ s1 < s2 := by omega
        have hd : decide (s2 < s1) = true := decide_eq_true h
        go_enter Try.func13, Try.ntmps13
        go_wp2_with (go_at_call 32; (with_reducible refine (order_any _ _ _).mono ?_); rintro e w' ⟨rfl, rfl⟩; rw [ordB_ft])
        go_ret
        exact ⟨rfl, HB.out _ _⟩
    · have e : icmp e1 e2 = 1 := by unfold icmp; rw [if_neg (by omega), if_pos h]
      rw [e]
      clear e
      have hn : (e1 == e2) = false := by rw [beq_eq_false_iff_ne]; omega
      have hd : decide (e1 < e2) = false := decide_eq_false (by omega)
      go_enter Try.func13, Try.ntmps13
      go_wp2_with (go_at_call 32; (with_reducible refine (order_any _ _ _).mono ?_); rintro e w' ⟨rfl, rfl⟩; rw [ordB_ft])
      go_ret
      exact ⟨rfl, HB.out _ _⟩
  · have e : prim ⟨k1, s1, e1⟩ ⟨k2, s2, e2⟩ = 1 := by simp [prim, h]
    have hs := text_ne (a := k1) (b := k2) (by intro e; rw [e, Ky.cmp_refl] at h; simp at h)
    rw [h] at t1 t2
    rw [e]
    simp at t1 t2
    clear h e
    go_enter Try.func13, Try.ntmps13
    go_wp2_with (go_at_call 32; (with_reducible refine (order_any _ _ _).mono ?_); rintro e w' ⟨rfl, rfl⟩; rw [ordB_ft])
    go_ret
    exact ⟨rfl, HB.out _ _⟩
set_option maxRecDepth 100000 in
set_option maxHeartbeats 1000000 in
theorem secondary_any (p q : Pn) (w : World) : Calls Try.prog 16 #[p.val, q.val] w (RetP w (sec p q)) := by
  have hb : ∀ (o o' : Obj), Below w.heap.size w ((w.alloc o).alloc o') := fun o o' => ((Below.refl _ _).alloc (Nat.le_refl _) _).alloc (by simp) _
  have HB := Lib.hid hb
  clear hb
  obtain ⟨k1, s1, e1⟩ := p
  obtain ⟨k2, s2, e2⟩ := q
  have ev1 : Pn.val ⟨k1, s1, e1⟩ = .agg #[.string k1, .int .i64 s1, .int .i64 e1] := rfl
  have ev2 : Pn.val ⟨k2, s2, e2⟩ = .agg #[.string k2, .int .i64 s2, .int .i64 e2] := rfl
  rcases Int.lt_trichotomy e1 e2 with h | h | h
  · have e : sec ⟨k1, s1, e1⟩ ⟨k2, s2, e2⟩ = -1 := by
      have : icmp e1 e2 = -1 := by unfold icmp; rw [if_pos h]
      simp [sec, this]
    rw [e, ev1, ev2]
    clear e ev1 ev2
    have hn : (e1 == e2) = false := by rw [beq_eq_false_iff_ne]; omega
    have hd : decide (e1 < e2) = true := decide_eq_true h
    go_enter Try.func16, Try.ntmps16
    go_wp2_with (go_at_call 32; (with_reducible refine (order_any _ _ _).mono ?_); rintro e w' ⟨rfl, rfl⟩; rw [ordB_t])
    go_ret
    exact ⟨rfl, HB.out _ _⟩
  · subst h
    have e : sec ⟨k1, s1, e1⟩ ⟨k2, s2, e1⟩ = prim ⟨k1, s1, e1⟩ ⟨k2, s2, e1⟩ := by
      have : icmp e1 e1 = 0 := by unfold icmp; rw [if_neg (by omega), if_neg (by omega)]
      simp [sec, this]
    have hp := fun W => primary_any ⟨k1, s1, e1⟩ ⟨k2, s2, e1⟩ W
    rw [ev1, ev2] at hp
    rw [e, ev1, ev2]
    clear e ev1 ev2
    generalize prim ⟨k1, s1, e1⟩ ⟨k2, s2, e1⟩ = r at hp ⊢
    have HP := Lib.hid hp
    clear hp
    go_enter Try.func16, Try.ntmps16
    go_wp2_with (go_at_call 13; (refine (HP.out _).mono ?_); rintro e w' ⟨rfl, b⟩)
    go_ret
    exact ⟨rfl, (HB.out _ _).trans (b.mono (HB.out _ _).size)⟩
  · have e : sec ⟨k1, s1, e1⟩ ⟨k2, s2, e2⟩ = 1 := by
      have : icmp e1 e2 = 1 := by unfold icmp; rw [if_neg (by omega), if_pos h]
      simp [sec, this]
    rw [e, ev1, ev2]
    clear e ev1 ev2
    have hn : (e1 == e2) = false := by rw [beq_eq_false_iff_ne]; omega
    have hd : decide (e1 < e2) = false := decide_eq_false (by omega)
    go_enter Try.func16, Try.ntmps16
    go_wp2_with (go_at_call 32; (with_reducible refine (order_any _ _ _).mono ?_); rintro e w' ⟨rfl, rfl⟩; rw [ordB_ft])
    go_ret
    exact ⟨rfl, HB.out _ _⟩
end Go.Proofs.Ytaahlepgmcgcfaa
