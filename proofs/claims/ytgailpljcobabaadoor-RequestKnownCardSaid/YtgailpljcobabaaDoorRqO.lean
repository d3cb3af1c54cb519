/- Layer 9's statements: what they lean on: a request as the reference has it, texts that are short, the examples. -/
import Derived.Test.YtgailpljcobabaaDoorRqM
import Derived.Test.YtgailpljcobabaaDoorRqG
namespace Go.Proofs.YtgailpljcobabaaDoor
open Go.ChangeShapes Go.WideShapes Go.ChangeAt Go.RowKit

/-- What a statement's walk is to end in. -/
def LawP (w : World) (e : Ending) (w' : World) : Prop := e = .returned (.bool true) ∧ Below w.heap.size w w'
set_option maxRecDepth 100000 in
set_option maxHeartbeats 2000000 in
theorem ref_any (x : Rq.V) (w : World) : Calls Tryd.prog 10 #[x.val] w fun e w' => e = .returned x.val ∧ Below w.heap.size w w' := by
  obtain ⟨k, id, pg, du, a, l, s, ky, to, lo, hi⟩ := x
  have hb : ∀ (o o' : Obj), Below w.heap.size w ((w.alloc o).alloc o') := fun o o' => ((Below.refl _ _).alloc (Nat.le_refl _) _).alloc (by simp) _
  have HB := Lib.hid hb
  unfold Rq.V.val Rq.V.cells
  dsimp only
  clear hb
  go_enter Tryd.func10, Tryd.ntmps10
  go_wp2_with fail
  refine bodyPost_ret (v := .agg #[.int .u8 (k : Int), .int .u32 (id : Int), .int .u8 (pg : Int), .int .u16 (du : Int), .int .u64 (a : Int), .int .u64 (l : Int), .int .u8 (s : Int), .string ky, .string to, .int .i64 lo, .int .i64 hi]) ?_ rfl ⟨rfl, ?_⟩
  · simp [results, Tryd.results10, go_sem]
  · repeat (with_reducible refine bel_set ?_ (by omega) _)
    with_reducible exact HB.out _ _
def Rq.few (x : Rq.V) : Bool := decide (x.ky.size ≤ 100) && decide (x.to.size ≤ 100)
set_option maxRecDepth 100000 in
theorem few9_any (x : Rq.V) (w : World) : Calls Tryd.prog 7 #[x.val] w fun e w' => e = .returned (.bool (Rq.few x)) ∧ Below w.heap.size w w' := by
  have HB := Lib.hid ((Held.start w).new x.cells 26).1
  obtain ⟨b, hb⟩ : ∃ b, Rq.few x = b := ⟨_, rfl⟩
  rw [hb]
  unfold Rq.few at hb
  obtain ⟨k, id, pg, du, a, l, s, ky, to, lo, hi⟩ := x
  unfold Rq.V.val Rq.V.cells at *
  dsimp only at *
  by_cases h1 : ky.size ≤ 100
  · have d1 : (ky.size : Int) ≤ 100 := by omega
    have d2 : decide ((ky.size : Int) ≤ 100) = true := decide_eq_true d1
    by_cases h2 : to.size ≤ 100
    · have d3 : (to.size : Int) ≤ 100 := by omega
      have d4 : decide ((to.size : Int) ≤ 100) = true := decide_eq_true d3
      rw [decide_eq_true h1, decide_eq_true h2] at hb
      obtain rfl : true = b := hb
      go_enter Tryd.func7, Tryd.ntmps7
      go_wp2_with fail
      go_ret
      exact ⟨rfl, HB.out⟩
    · have d3 : ¬ (to.size : Int) ≤ 100 := by omega
      have d4 : decide ((to.size : Int) ≤ 100) = false := decide_eq_false d3
      rw [decide_eq_true h1, decide_eq_false h2] at hb
      obtain rfl : false = b := hb
      go_enter Tryd.func7, Tryd.ntmps7
      go_wp2_with fail
      go_ret
      exact ⟨rfl, HB.out⟩
  · have d1 : ¬ (ky.size : Int) ≤ 100 := by omega
    have d2 : decide ((ky.size : Int) ≤ 100) = false := decide_eq_false d1
    rw [decide_eq_false h1] at hb
    obtain rfl : false = b := hb
    go_enter Tryd.func7, Tryd.ntmps7
    go_wp2_with fail
    go_ret
    exact ⟨rfl, HB.out⟩
theorem putP {x : Rq.V} {l : List Nat} {v : Value} (ok : x.ok) (hv : x.val = v) (hr : x.right = true) (hl : x.bytes = l) (W : World) (hV : Vars W) : Calls Tryd.prog 11 #[v] W (PutR W l 0) := by
  have h := pPut9_any x W hV ok
  have e1 : x.putB = l := by unfold Rq.V.putB; rw [if_pos hr, hl]
  have e2 : x.putE = 0 := by unfold Rq.V.putE; rw [if_pos hr]
  rw [e1, e2, hv] at h
  exact h
theorem lit_bytes (W : World) (l : List Nat) (cs : Array Value) (h : (u8s l).toArray = cs) (hl : ∀ x ∈ l, x < 256) : Bytes (W.alloc (.cells cs 5)) (W.heap.size + 1) (some ⟨W.heap.size, 0, none⟩) l.length l := by
  subst h
  refine ⟨rfl, hl, fun _ => ⟨W.heap.size, 0, rfl, by omega, fun i hi => ?_⟩⟩
  rw [Nat.zero_add, (Blk.new W _ _).cell, List.getElem?_toArray]
  exact u8s_at hi
theorem same_lit {W : World} {B n c g : Nat} {A : Option Addr} {l : List Nat} (cs : Array Value) (m : Nat) (hgs : W.heap.size = g) (h : (u8s l).toArray = cs) (hm : l.length = m) (ho : W.ownsRow B 5 1 (.slice A n c) n (u8s l)) (hl : ∀ x ∈ l, x < 256) (hz : m ≤ 1000000) :
    Calls Tryd.prog 12 #[.slice A n c, .slice (some ⟨g, 0, none⟩) m m] (W.alloc (.cells cs 5)) fun e w' => e = .returned (.bool true) ∧ Below (W.alloc (.cells cs 5)).heap.size (W.alloc (.cells cs 5)) w' := by
  subst hm hgs
  have b1 : Below W.heap.size W (W.alloc (.cells cs 5)) := (Below.refl _ _).alloc (Nat.le_refl _) _
  have hb := (Bytes.of_own ho hl).below b1 (Nat.le_refl _)
  have hn : n = l.length := hb.1.symm
  refine (same_yes n c l.length l.length (W.heap.size + 1) A _ l _ (hb.more (by omega)) (lit_bytes W l cs h hl) (by omega)).mono ?_
  rintro e w' ⟨rfl, m, rfl⟩
  exact ⟨rfl, ⟨rfl, rfl, rfl, Nat.le_refl _, fun _ _ => rfl⟩⟩
theorem psP {n g : Nat} {l : List Nat} {cs : Array Value} {er : Int} (h : (u8s l).toArray = cs) (hl : ∀ x ∈ l, x < 256) (hn : l.length = n) (hz : n ≤ 1000000) (he : Rq.pse l = er) (h0 : er ≠ 0) (W : World) (hV : Vars W) (hgs : W.heap.size = g) :
    Calls Tryd.prog 19 #[.slice (some ⟨g, 0, none⟩) n n] (W.alloc (.cells cs 5)) fun e w' => e = .returned (.tuple #[.agg #[.int .u8 0, .int .u32 0, .int .u8 0, .int .u16 0, .int .u64 0, .int .u64 0, .int .u8 0, .string ⟨#[]⟩, .string ⟨#[]⟩, .int .i64 0, .int .i64 0], .int .i64 er]) ∧ Below (W.alloc (.cells cs 5)).heap.size (W.alloc (.cells cs 5)) w' := by
  subst hn hgs
  have h := pParse9_any l.length l.length (W.heap.size + 1) _ l _ (hV.next ((Below.refl _ _).alloc (Nat.le_refl _) _)) (lit_bytes W l cs h hl) (by simp) hz
  unfold PsP at h
  have e1 : Rq.psx l = Rq.only 0 0 := if_neg (by rw [he]; exact h0)
  rw [e1, he] at h
  exact h
theorem word_poll (W : World) (hV : Vars W) : Calls Tryd.prog 16 #[.int .u8 6] W fun e w' => e = .returned (.string ⟨#[112, 111, 108, 108]⟩) ∧ W = w' := word_any 6 W hV (by omega)
def ex1 : Rq.V := ⟨8, 7, 0, 0, 0, 0, 0, ⟨#[]⟩, ⟨#[]⟩, 0, 0⟩
def ex2 : Rq.V := ⟨4, 1, 0, 0, 0, 2, 0, ⟨#[]⟩, ⟨#[]⟩, 0, 0⟩
def ex3 : Rq.V := ⟨1, 1, 0, 0, 0, 0, 1, ⟨#[97]⟩, ⟨#[]⟩, 10, 0⟩
theorem ex1_ok : ex1.ok ∧ ex1.right = true ∧ ex1.bytes = [8, 0, 0, 0, 7] := ⟨by unfold Rq.V.ok ex1; dsimp only; omega, ex1.right_iff.2 ⟨rfl, by decide, rfl, rfl, rfl⟩, rfl⟩
theorem ex2_ok : ex2.ok ∧ ex2.right = true ∧ ex2.bytes = [4, 0, 0, 0, 1, 0, 0, 0, 0, 0, 0, 0, 2] := ⟨by unfold Rq.V.ok ex2; dsimp only; omega, ex2.right_iff.2 ⟨rfl, by decide, rfl, rfl, rfl⟩, rfl⟩
theorem ex3_ok : ex3.ok ∧ ex3.right = true ∧ ex3.bytes = [1, 0, 0, 0, 1, 0, 0, 0, 0, 0, 0, 0, 0, 0, 1, 0, 1, 97, 0, 0, 0, 0, 0, 0, 0, 0, 0, 10, 0, 0, 0, 0, 0, 0, 0, 0] := ⟨by unfold Rq.V.ok ex3; dsimp only; omega, ex3.right_iff.2 ⟨rfl, by decide, rfl, rfl, rfl⟩, rfl⟩
set_option maxRecDepth 100000 in
set_option maxHeartbeats 8000000 in
theorem works9_any (w : World) (hV : Vars w) : Calls Tryd.prog 8 #[] w (LawP w) := by
  have HV : Hid (∀ W, Below w.heap.size w W → Vars W) := Lib.hid fun W hW => hV.next hW
  have P1 : Hid (∀ W, Below w.heap.size w W → Calls Tryd.prog 11 #[.agg #[.int .u8 8, .int .u32 7, .int .u8 0, .int .u16 0, .int .u64 0, .int .u64 0, .int .u8 0, .string ⟨#[]⟩, .string ⟨#[]⟩, .int .i64 0, .int .i64 0]] W (PutR W [8, 0, 0, 0, 7] 0)) := Lib.hid fun W hW => putP ex1_ok.1 rfl ex1_ok.2.1 ex1_ok.2.2 W (HV.out W hW)
  have P2 : Hid (∀ W, Below w.heap.size w W → Calls Tryd.prog 11 #[.agg #[.int .u8 4, .int .u32 1, .int .u8 0, .int .u16 0, .int .u64 0, .int .u64 2, .int .u8 0, .string ⟨#[]⟩, .string ⟨#[]⟩, .int .i64 0, .int .i64 0]] W (PutR W [4, 0, 0, 0, 1, 0, 0, 0, 0, 0, 0, 0, 2] 0)) := Lib.hid fun W hW => putP ex2_ok.1 rfl ex2_ok.2.1 ex2_ok.2.2 W (HV.out W hW)
  have P3 : Hid (∀ W, Below w.heap.size w W → Calls Tryd.prog 11 #[.agg #[.int .u8 1, .int .u32 1, .int .u8 0, .int .u16 0, .int .u64 0, .int .u64 0, .int .u8 1, .string ⟨#[97]⟩, .string ⟨#[]⟩, .int .i64 10, .int .i64 0]] W (PutR W [1, 0, 0, 0, 1, 0, 0, 0, 0, 0, 0, 0, 0, 0, 1, 0, 1, 97, 0, 0, 0, 0, 0, 0, 0, 0, 0, 10, 0, 0, 0, 0, 0, 0, 0, 0] 0)) := Lib.hid fun W hW => putP ex3_ok.1 rfl ex3_ok.2.1 ex3_ok.2.2 W (HV.out W hW)
  have P4 : Hid (∀ W g, Below w.heap.size w W → W.heap.size = g → Calls Tryd.prog 19 #[.slice (some ⟨g, 0, none⟩) 1 1] (W.alloc (.cells #[.int .u8 9] 5)) fun e w' => e = .returned (.tuple #[.agg #[.int .u8 0, .int .u32 0, .int .u8 0, .int .u16 0, .int .u64 0, .int .u64 0, .int .u8 0, .string ⟨#[]⟩, .string ⟨#[]⟩, .int .i64 0, .int .i64 0], .int .i64 80]) ∧ Below (W.alloc (.cells #[.int .u8 9] 5)).heap.size (W.alloc (.cells #[.int .u8 9] 5)) w') := Lib.hid fun W g hW hg => psP (l := [9]) rfl (by decide) rfl (by decide) rfl (by decide) W (HV.out W hW) hg
  have P5 : Hid (∀ W g, Below w.heap.size w W → W.heap.size = g → Calls Tryd.prog 19 #[.slice (some ⟨g, 0, none⟩) 2 2] (W.alloc (.cells #[.int .u8 8, .int .u8 0] 5)) fun e w' => e = .returned (.tuple #[.agg #[.int .u8 0, .int .u32 0, .int .u8 0, .int .u16 0, .int .u64 0, .int .u64 0, .int .u8 0, .string ⟨#[]⟩, .string ⟨#[]⟩, .int .i64 0, .int .i64 0], .int .i64 20]) ∧ Below (W.alloc (.cells #[.int .u8 8, .int .u8 0] 5)).heap.size (W.alloc (.cells #[.int .u8 8, .int .u8 0] 5)) w') := Lib.hid fun W g hW hg => psP (l := [8, 0]) rfl (by decide) rfl (by decide) rfl (by decide) W (HV.out W hW) hg
  clear hV
  go_enter Tryd.func8, Tryd.ntmps8
  go_wp2_with fail
  refine (P1.out _ (Below.refl _ _)).mono ?_
  rintro e w1 ⟨A1, c1, rfl, o1, b1⟩
  have H1 := Lib.hid (And.intro b1 o1)
  clear o1 b1
  go_wp2_with fail
  refine (P2.out _ H1.out.1).mono ?_
  rintro e w2 ⟨A2, c2, rfl, o2, b2⟩
  have H2 := Lib.hid (And.intro (below_next H1.out.1 b2) (And.intro (own_below H1.out.2 b2) o2))
  clear o2 b2
  go_wp2_with fail
  refine (P3.out _ H2.out.1).mono ?_
  rintro e w3 ⟨A3, c3, rfl, o3, b3⟩
  have H3 := Lib.hid (And.intro (below_next H2.out.1 b3) (And.intro (own_below H2.out.2.1 b3) (And.intro (own_below H2.out.2.2 b3) o3)))
  clear o3 b3
  go_wp2_with fail
  refine (P4.out _ _ H3.out.1 rfl).mono ?_
  rintro e w4 ⟨rfl, b4⟩
  have b4' : Below w3.heap.size w3 (w4.alloc (.cells #[.int .u8 0, .int .u32 0, .int .u8 0, .int .u16 0, .int .u64 0, .int .u64 0, .int .u8 0, .string ⟨#[]⟩, .string ⟨#[]⟩, .int .i64 0, .int .i64 0] 26)) := by
    have h := below_next ((Below.refl w3.heap.size w3).alloc (Nat.le_refl _) (.cells #[.int .u8 9] 5)) b4
    exact h.alloc h.size _
  have H4 := Lib.hid (And.intro (below_next H3.out.1 b4') (And.intro (own_below H3.out.2.1 b4') (And.intro (own_below H3.out.2.2.1 b4') (own_below H3.out.2.2.2 b4'))))
  clear b4 b4'
  go_wp2_with fail
  refine (P5.out _ _ H4.out.1 (by simp)).mono ?_
  rintro e w5 ⟨rfl, b5⟩
  obtain ⟨W4, hW4⟩ : ∃ W, w4.alloc (.cells #[.int .u8 0, .int .u32 0, .int .u8 0, .int .u16 0, .int .u64 0, .int .u64 0, .int .u8 0, .string ⟨#[]⟩, .string ⟨#[]⟩, .int .i64 0, .int .i64 0] 26) = W := ⟨_, rfl⟩
  have b5' : Below W4.heap.size W4 (w5.alloc (.cells #[.int .u8 0, .int .u32 0, .int .u8 0, .int .u16 0, .int .u64 0, .int .u64 0, .int .u8 0, .string ⟨#[]⟩, .string ⟨#[]⟩, .int .i64 0, .int .i64 0] 26)) := by
    rw [hW4] at b5
    have h := below_next ((Below.refl W4.heap.size W4).alloc (Nat.le_refl _) (.cells #[.int .u8 8, .int .u8 0] 5)) b5
    exact h.alloc h.size _
  rw [hW4] at H4
  have H5 := Lib.hid (And.intro (below_next H4.out.1 b5') (And.intro (own_below H4.out.2.1 b5') (And.intro (own_below H4.out.2.2.1 b5') (own_below H4.out.2.2.2 b5'))))
  clear b5 b5' hW4
  go_wp2_with fail
  refine (same_lit (W := w5.alloc (.cells #[.int .u8 0, .int .u32 0, .int .u8 0, .int .u16 0, .int .u64 0, .int .u64 0, .int .u8 0, .string ⟨#[]⟩, .string ⟨#[]⟩, .int .i64 0, .int .i64 0] 26)) #[.int .u8 8, .int .u8 0, .int .u8 0, .int .u8 0, .int .u8 7] 5 (by simp) rfl rfl H5.out.2.1 (by decide) (by omega)).mono ?_
  rintro e w6 ⟨rfl, b6⟩
  obtain ⟨W5, hW5⟩ : ∃ W, w5.alloc (.cells #[.int .u8 0, .int .u32 0, .int .u8 0, .int .u16 0, .int .u64 0, .int .u64 0, .int .u8 0, .string ⟨#[]⟩, .string ⟨#[]⟩, .int .i64 0, .int .i64 0] 26) = W := ⟨_, rfl⟩
  rw [hW5] at H5 b6
  have b6' : Below W5.heap.size W5 w6 := below_next ((Below.refl W5.heap.size W5).alloc (Nat.le_refl _) (.cells #[.int .u8 8, .int .u8 0, .int .u8 0, .int .u8 0, .int .u8 7] 5)) b6
  have H6 := Lib.hid (And.intro (below_next H5.out.1 b6') (And.intro (own_below H5.out.2.2.1 b6') (own_below H5.out.2.2.2 b6')))
  clear b6 b6' hW5
  go_wp2_with fail
  refine (same_lit (W := w6) #[.int .u8 4, .int .u8 0, .int .u8 0, .int .u8 0, .int .u8 1, .int .u8 0, .int .u8 0, .int .u8 0, .int .u8 0, .int .u8 0, .int .u8 0, .int .u8 0, .int .u8 2] 13 rfl rfl rfl H6.out.2.1 (by decide) (by omega)).mono ?_
  rintro e w7 ⟨rfl, b7⟩
  have b7' : Below w6.heap.size w6 w7 := below_next ((Below.refl w6.heap.size w6).alloc (Nat.le_refl _) (.cells #[.int .u8 4, .int .u8 0, .int .u8 0, .int .u8 0, .int .u8 1, .int .u8 0, .int .u8 0, .int .u8 0, .int .u8 0, .int .u8 0, .int .u8 0, .int .u8 0, .int .u8 2] 5)) b7
  have H7 := Lib.hid (And.intro (below_next H6.out.1 b7') (own_below H6.out.2.2 b7'))
  clear b7 b7'
  go_wp2_with fail
  refine (same_lit (W := w7) #[.int .u8 1, .int .u8 0, .int .u8 0, .int .u8 0, .int .u8 1, .int .u8 0, .int .u8 0, .int .u8 0, .int .u8 0, .int .u8 0, .int .u8 0, .int .u8 0, .int .u8 0, .int .u8 0, .int .u8 1, .int .u8 0, .int .u8 1, .int .u8 97, .int .u8 0, .int .u8 0, .int .u8 0, .int .u8 0, .int .u8 0, .int .u8 0, .int .u8 0, .int .u8 0, .int .u8 0, .int .u8 10, .int .u8 0, .int .u8 0, .int .u8 0, .int .u8 0, .int .u8 0, .int .u8 0, .int .u8 0, .int .u8 0] 36 rfl rfl rfl H7.out.2 (by decide) (by omega)).mono ?_
  rintro e w8 ⟨rfl, b8⟩
  have b8' : Below w7.heap.size w7 w8 := below_next ((Below.refl w7.heap.size w7).alloc (Nat.le_refl _) (.cells #[.int .u8 1, .int .u8 0, .int .u8 0, .int .u8 0, .int .u8 1, .int .u8 0, .int .u8 0, .int .u8 0, .int .u8 0, .int .u8 0, .int .u8 0, .int .u8 0, .int .u8 0, .int .u8 0, .int .u8 1, .int .u8 0, .int .u8 1, .int .u8 97, .int .u8 0, .int .u8 0, .int .u8 0, .int .u8 0, .int .u8 0, .int .u8 0, .int .u8 0, .int .u8 0, .int .u8 0, .int .u8 10, .int .u8 0, .int .u8 0, .int .u8 0, .int .u8 0, .int .u8 0, .int .u8 0, .int .u8 0, .int .u8 0] 5)) b8
  have H8 := Lib.hid (below_next H7.out.1 b8')
  clear b8 b8'
  go_wp2_with fail
  refine (word_poll _ (HV.out _ H8.out)).mono ?_
  rintro e w9 ⟨rfl, rfl⟩
  go_wp2_with fail
  go_ret
  exact ⟨rfl, H8.out⟩
end Go.Proofs.YtgailpljcobabaaDoor
