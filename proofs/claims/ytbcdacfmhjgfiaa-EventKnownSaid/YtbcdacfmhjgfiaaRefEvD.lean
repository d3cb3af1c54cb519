/- Layer 6's reference: the operation from a place on. (Made by tools/gen/evn.py.) -/
import Derived.Test.YtbcdacfmhjgfiaaEvN
import Derived.Deep.DeepCutAuto
namespace Go.Proofs.Ytbcdacfmhjgfiaa
open Go.ChangeShapes Go.WideShapes Go.ChangeAt Go.RowKit

def NextP (w : World) (a : Nat) (r : Int × Evo × Nat) (e : Ending) (w' : World) : Prop := e = .returned (.tuple #[.agg #[.int .u8 (r.2.1.k : Int), .string r.2.1.s, .int .i64 r.2.1.t, .int .i64 r.2.1.v], .int .i64 ((a + r.2.2 : Nat) : Int), .int .i64 r.1]) ∧ Below w.heap.size w w'
section
variable {n c a k B : Nat} {A : Option Addr} {b : List Nat} {f : Bool} {w : World}
theorem take_let (hb : Bytes w B A n b) (hB : B ≤ w.heap.size) (hn : n ≤ 1000000) (ha : a ≤ n) {m p : Nat} {g : Bool} (h1 : Pk.num (Pk.taken f (b.drop a) 8) = m) (h2 : goes f (b.drop a) a 8 = p) (h3 : Pk.fails f (b.drop a) 8 = g) :
    Calls Try.prog 46 #[.agg #[.slice A n c, .int .i64 (a : Int), .bool f], .int .i64 8] w fun e w' => e = .returned (.tuple #[.int .u64 (m : Int), .agg #[.slice A n c, .int .i64 (p : Int), .bool g]]) ∧ Below w.heap.size w w' := by
  refine (refTake_any n c a 8 B A b f w hb hB hn ha (by omega)).mono fun e w' hp => ?_
  unfold RTake at hp
  rw [h1, h2, h3] at hp
  exact hp
theorem text_let (hb : Bytes w B A n b) (hB : B ≤ w.heap.size) (hn : n ≤ 1000000) (ha : a ≤ n) (hc : n ≤ c) {T : ByteArray} {p : Nat} {g : Bool} (h1 : textOf (Pk.ttaken false (b.drop a)) = T) (h2 : tgoes false (b.drop a) a = p) (h3 : Pk.tfails false (b.drop a) = g) :
    Calls Try.prog 47 #[.agg #[.slice A n c, .int .i64 (a : Int), .bool false]] w fun e w' => e = .returned (.tuple #[.string T, .agg #[.slice A n c, .int .i64 (p : Int), .bool g]]) ∧ Below w.heap.size w w' := by
  refine (refTakeText_any n c a B A b false w hb hB hn ha hc).mono fun e w' hp => ?_
  unfold RText at hp
  rw [h1, h2, h3] at hp
  exact hp
theorem take_one (hb : Bytes w B A n b) (hB : B ≤ w.heap.size) (hn : n ≤ 1000000) (ha : a ≤ n) {r : List Nat} (hl : b.drop a = k :: r) {p : Nat} (hp : a + 1 = p) :
    Calls Try.prog 46 #[.agg #[.slice A n c, .int .i64 (a : Int), .bool false], .int .i64 1] w fun e w' => e = .returned (.tuple #[.int .u64 (k : Int), .agg #[.slice A n c, .int .i64 (p : Int), .bool false]]) ∧ Below w.heap.size w w' := by
  have h := take_yes (k := 1) (c := c) hb hB hn ha (by omega) (by rw [hl]; simp)
  have e1 : Pk.num ((b.drop a).take 1) = k := by rw [hl]; simp [Pk.num]
  rw [e1, hp] at h
  exact h
end
set_option maxRecDepth 100000 in
set_option maxHeartbeats 4000000 in
theorem refNext_any (n c a B : Nat) (A : Option Addr) (b : List Nat) (w : World) (hb : Bytes w B A n b) (hB : B ≤ w.heap.size) (hn : n ≤ 1000000) (ha : a ≤ n) (hc : n ≤ c) : Calls Try.prog 33 #[.slice A n c, .int .i64 (a : Int)] w (NextP w a (Ev.nx (b.drop a))) := by
  have HB := Lib.hid (And.intro hb hB)
  have hlen := hb.1
  have HBY : Hid (∀ W, Below w.heap.size w W → Bytes W B A n b) := Lib.hid fun W hW => hb.below hW hB
  have HBS : Hid (∀ W, Below w.heap.size w W → B ≤ W.heap.size) := Lib.hid fun W hW => Nat.le_trans hB hW.size
  have h256 : ∀ x ∈ b, x < 256 := hb.2.1
  have S0 := Lib.hid (((Held.start w).new #[.int .u8 0, .string ⟨#[]⟩, .int .i64 0, .int .i64 0] 27).new #[.slice A n c, .int .i64 (a : Int), .bool false] 83)
  rw [World.size_alloc] at S0
  clear hb hB
  go_enter Try.func33, Try.ntmps33
  go_wp2_with fail
  have HZ : Hid (w.heap.size + 2 ≤ ((w.alloc (.cells #[.int .u8 0, .string ⟨#[]⟩, .int .i64 0, .int .i64 0] 27)).alloc (.cells #[.slice A n c, .int .i64 (a : Int), .bool false] 83)).heap.size) := Lib.hid (by simp)
  obtain ⟨W0, hW0⟩ : ∃ W, (w.alloc (.cells #[.int .u8 0, .string ⟨#[]⟩, .int .i64 0, .int .i64 0] 27)).alloc (.cells #[.slice A n c, .int .i64 (a : Int), .bool false] 83) = W := ⟨_, rfl⟩
  rw [hW0] at S0 HZ ⊢
  clear hW0
  rcases hl : b.drop a with _ | ⟨k, r⟩
  · have hf : Pk.fails false (b.drop a) 1 = true := Pk.fails_yes (.inr (by rw [hl]; simp))
    have hnx : Ev.nx (b.drop a) = (20, Ev.none', 0) := by rw [hl]; rfl
    have HN := Lib.hid hnx
    refine (take_no (k := 1) (HBY.out W0 S0.out.1) (HBS.out W0 S0.out.1) hn ha (by omega) hf).mono ?_
    rintro e w1 ⟨rfl, b1⟩
    have S1 := Lib.hid (S0.out.step b1)
    clear b1 hf hnx
    have kk := S1.out.at_ (List.mem_cons_self ..)
    have p0 := kk.cell 0
    have pf0 := kk.frozen 0
    have p1 := kk.cell 1
    have pf1 := kk.frozen 1
    have p2 := kk.cell 2
    have pf2 := kk.frozen 2
    clear kk
    have kk := S1.out.at_ (List.mem_cons_of_mem _ (List.mem_cons_self ..))
    have q0 := kk.cell 0
    have qf0 := kk.frozen 0
    have q1 := kk.cell 1
    have qf1 := kk.frozen 1
    have q2 := kk.cell 2
    have qf2 := kk.frozen 2
    have q3 := kk.cell 3
    have qf3 := kk.frozen 3
    clear kk
    go_wp2_with fail
    clear p0 pf0 p1 pf1 p2 pf2 q0 qf0 q1 qf1 q2 qf2 q3 qf3
    have s0 : Held w w1 [(w.heap.size + 1, 83, (#[.slice A n c, .int .i64 (a : Int), .bool false] : Array Value)), (w.heap.size, 27, (#[.int .u8 0, .string ⟨#[]⟩, .int .i64 0, .int .i64 0] : Array Value))] := S1.out.sub (by intro x hx; simp only [List.mem_cons, List.not_mem_nil, or_false] at hx ⊢; rcases hx with h | h <;> simp [h])
    have s1 : Held w (((w1.setCell ⟨w.heap.size + 1, 0, none⟩ (.slice A n c)).setCell ⟨w.heap.size + 1, 1, none⟩ (.int .i64 (a : Int))).setCell ⟨w.heap.size + 1, 2, none⟩ (.bool true)) [(w.heap.size + 1, 83, (#[.slice A n c, .int .i64 (a : Int), .bool true] : Array Value)), (w.heap.size, 27, (#[.int .u8 0, .string ⟨#[]⟩, .int .i64 0, .int .i64 0] : Array Value))] := (((s0.set1 (by omega) (by intro x hx; have h := List.mem_singleton.1 hx; rw [h]; show w.heap.size ≠ w.heap.size + 1; omega) 0 (.slice A n c)).set1 (by omega) (by intro x hx; have h := List.mem_singleton.1 hx; rw [h]; show w.heap.size ≠ w.heap.size + 1; omega) 1 (.int .i64 (a : Int))).set1 (by omega) (by intro x hx; have h := List.mem_singleton.1 hx; rw [h]; show w.heap.size ≠ w.heap.size + 1; omega) 2 (.bool true))
    obtain ⟨W1, hW⟩ : ∃ W, (((w1.setCell ⟨w.heap.size + 1, 0, none⟩ (.slice A n c)).setCell ⟨w.heap.size + 1, 1, none⟩ (.int .i64 (a : Int))).setCell ⟨w.heap.size + 1, 2, none⟩ (.bool true)) = W := ⟨_, rfl⟩
    rw [hW] at s1 ⊢
    have S2 := Lib.hid s1
    clear hW s0 s1
    have s0 : Held w W1 [(w.heap.size, 27, (#[.int .u8 0, .string ⟨#[]⟩, .int .i64 0, .int .i64 0] : Array Value)), (w.heap.size + 1, 83, (#[.slice A n c, .int .i64 (a : Int), .bool true] : Array Value))] := S2.out.sub (by intro x hx; simp only [List.mem_cons, List.not_mem_nil, or_false] at hx ⊢; rcases hx with h | h <;> simp [h])
    have s1 : Held w ((((W1.setCell ⟨w.heap.size, 0, none⟩ (.int .u8 0)).setCell ⟨w.heap.size, 1, none⟩ (.string ⟨#[]⟩)).setCell ⟨w.heap.size, 2, none⟩ (.int .i64 0)).setCell ⟨w.heap.size, 3, none⟩ (.int .i64 0)) [(w.heap.size, 27, (#[.int .u8 0, .string ⟨#[]⟩, .int .i64 0, .int .i64 0] : Array Value)), (w.heap.size + 1, 83, (#[.slice A n c, .int .i64 (a : Int), .bool true] : Array Value))] := ((((s0.set1 (by omega) (by intro x hx; have h := List.mem_singleton.1 hx; rw [h]; show w.heap.size + 1 ≠ w.heap.size; omega) 0 (.int .u8 0)).set1 (by omega) (by intro x hx; have h := List.mem_singleton.1 hx; rw [h]; show w.heap.size + 1 ≠ w.heap.size; omega) 1 (.string ⟨#[]⟩)).set1 (by omega) (by intro x hx; have h := List.mem_singleton.1 hx; rw [h]; show w.heap.size + 1 ≠ w.heap.size; omega) 2 (.int .i64 0)).set1 (by omega) (by intro x hx; have h := List.mem_singleton.1 hx; rw [h]; show w.heap.size + 1 ≠ w.heap.size; omega) 3 (.int .i64 0))
    obtain ⟨W2, hW⟩ : ∃ W, ((((W1.setCell ⟨w.heap.size, 0, none⟩ (.int .u8 0)).setCell ⟨w.heap.size, 1, none⟩ (.string ⟨#[]⟩)).setCell ⟨w.heap.size, 2, none⟩ (.int .i64 0)).setCell ⟨w.heap.size, 3, none⟩ (.int .i64 0)) = W := ⟨_, rfl⟩
    rw [hW] at s1 ⊢
    have SF := Lib.hid s1
    clear hW s0 s1
    have hfin := SF.out.at_ (List.mem_cons_self ..)
    have f0 := hfin.cell 0
    have f1 := hfin.cell 1
    have f2 := hfin.cell 2
    have f3 := hfin.cell 3
    clear hfin
    refine bodyPost_ret (v := .tuple #[.agg #[.int .u8 0, .string ⟨#[]⟩, .int .i64 0, .int .i64 0], .int .i64 (a : Int), .int .i64 20]) ?_ rfl ?_
    · simp [results, Try.results33, go_sem, f0, f1, f2, f3]
    · unfold NextP
      first | rw [HN.out] | rw [← hl, HN.out]
      exact ⟨rfl, SF.out.1⟩
  · have hk : k < 256 := h256 k (List.mem_of_mem_drop (i := a) (by rw [hl]; simp))
    obtain ⟨p0, hp0⟩ : ∃ p, a + 1 = p := ⟨_, rfl⟩
    have hal : a < n := by
      have := congrArg List.length hl
      rw [List.length_drop, hlen] at this
      simp at this
      omega
    have hp0n : p0 ≤ n := by omega
    have w8 : IntKind.u8.wrap (k : Int) = (k : Int) := by simp [IntKind.wrap, IntKind.bits, IntKind.signed]; omega
    refine (take_one (HBY.out W0 S0.out.1) (HBS.out W0 S0.out.1) hn ha hl hp0).mono ?_
    rintro e w1 ⟨rfl, b1⟩
    have S1 := Lib.hid (S0.out.step b1)
    have hz1 : w.heap.size + 2 ≤ w1.heap.size := Nat.le_trans HZ.out b1.size
    clear b1
    have kk := S1.out.at_ (List.mem_cons_self ..)
    have p0 := kk.cell 0
    have pf0 := kk.frozen 0
    have p1 := kk.cell 1
    have pf1 := kk.frozen 1
    have p2 := kk.cell 2
    have pf2 := kk.frozen 2
    clear kk
    go_upto_region 5 with (fail)
    clear p0 pf0 p1 pf1 p2 pf2
    have s0 : Held w w1 [(w.heap.size + 1, 83, (#[.slice A n c, .int .i64 (a : Int), .bool false] : Array Value)), (w.heap.size, 27, (#[.int .u8 0, .string ⟨#[]⟩, .int .i64 0, .int .i64 0] : Array Value))] := S1.out.sub (by intro x hx; simp only [List.mem_cons, List.not_mem_nil, or_false] at hx ⊢; rcases hx with h | h <;> simp [h])
    have s1 : Held w (((w1.setCell ⟨w.heap.size + 1, 0, none⟩ (.slice A n c)).setCell ⟨w.heap.size + 1, 1, none⟩ (.int .i64 (p0 : Int))).setCell ⟨w.heap.size + 1, 2, none⟩ (.bool false)) [(w.heap.size + 1, 83, (#[.slice A n c, .int .i64 (p0 : Int), .bool false] : Array Value)), (w.heap.size, 27, (#[.int .u8 0, .string ⟨#[]⟩, .int .i64 0, .int .i64 0] : Array Value))] := (((s0.set1 (by omega) (by intro x hx; have h := List.mem_singleton.1 hx; rw [h]; show w.heap.size ≠ w.heap.size + 1; omega) 0 (.slice A n c)).set1 (by omega) (by intro x hx; have h := List.mem_singleton.1 hx; rw [h]; show w.heap.size ≠ w.heap.size + 1; omega) 1 (.int .i64 (p0 : Int))).set1 (by omega) (by intro x hx; have h := List.mem_singleton.1 hx; rw [h]; show w.heap.size ≠ w.heap.size + 1; omega) 2 (.bool false))
    obtain ⟨W1, hW⟩ : ∃ W, (((w1.setCell ⟨w.heap.size + 1, 0, none⟩ (.slice A n c)).setCell ⟨w.heap.size + 1, 1, none⟩ (.int .i64 (p0 : Int))).setCell ⟨w.heap.size + 1, 2, none⟩ (.bool false)) = W := ⟨_, rfl⟩
    rw [hW] at s1 ⊢
    have S2 := Lib.hid s1
    have hz2 : w.heap.size + 2 ≤ W1.heap.size := by rw [← hW]; simp [World.setCell]; omega
    clear hW s0 s1 hz1
    by_cases k1 : k = 1
    · subst k1
      rw [show ((1 : Nat) : Int) = 1 from rfl] at w8 ⊢
      obtain ⟨T, hT⟩ : ∃ T, textOf (Pk.ttaken false (b.drop p0)) = T := ⟨_, rfl⟩
      obtain ⟨p1, hp1⟩ : ∃ p, tgoes false (b.drop p0) p0 = p := ⟨_, rfl⟩
      obtain ⟨g1, hg1⟩ : ∃ p, Pk.tfails false (b.drop p0) = p := ⟨_, rfl⟩
      obtain ⟨m2, hm2⟩ : ∃ p, Pk.num (Pk.taken g1 (b.drop p1) 8) = p := ⟨_, rfl⟩
      obtain ⟨p2, hp2⟩ : ∃ p, goes g1 (b.drop p1) p1 8 = p := ⟨_, rfl⟩
      obtain ⟨g2, hg2⟩ : ∃ p, Pk.fails g1 (b.drop p1) 8 = p := ⟨_, rfl⟩
      obtain ⟨m3, hm3⟩ : ∃ p, Pk.num (Pk.taken g2 (b.drop p2) 8) = p := ⟨_, rfl⟩
      obtain ⟨p3, hp3⟩ : ∃ p, goes g2 (b.drop p2) p2 8 = p := ⟨_, rfl⟩
      obtain ⟨g3, hg3⟩ : ∃ p, Pk.fails g2 (b.drop p2) 8 = p := ⟨_, rfl⟩
      have hp1n : p1 ≤ n := by rw [← hp1]; exact tgoes_le hlen hp0n
      have hp2n : p2 ≤ n := by rw [← hp2]; exact goes_le hlen hp1n
      have hnx := nx_one (b := b) (p1 := p1) (f1 := g1) hl (by rw [hp0]; exact hp1) (by rw [hp0]; exact hg1) hp2 hg2 hp3 hg3
      rw [hp0, hT, hm2, hm3] at hnx
      have hle : a ≤ p3 := by
        have h1 : p0 ≤ p1 := by rw [← hp1]; unfold tgoes; split <;> omega
        have h2 : p1 ≤ p2 := by rw [← hp2]; unfold goes; split <;> omega
        have h3 : p2 ≤ p3 := by rw [← hp3]; unfold goes; split <;> omega
        omega
      obtain ⟨tt, htt⟩ : ∃ x, Ev.sg m2 = x := ⟨_, rfl⟩
      obtain ⟨vv, hvv⟩ : ∃ x, Ev.sg m3 = x := ⟨_, rfl⟩
      rw [htt, hvv] at hnx
      have x2 : IntKind.i64.wrap (m2 : Int) = tt := htt
      have x3 : IntKind.i64.wrap (m3 : Int) = vv := hvv
      have HX := Lib.hid (And.intro hnx (And.intro hle (And.intro x2 x3)))
      have HT := Lib.hid (And.intro hT (And.intro hp1 hg1))
      have H2 := Lib.hid (And.intro hm2 (And.intro hp2 hg2))
      have H3 := Lib.hid (And.intro hm3 (And.intro hp3 hg3))
      clear hT hp1 hg1 hm2 hp2 hg2 hm3 hp3 hg3 hnx hle htt hvv x2 x3
      go_upto_region 9 with (fail)
      have S3 := Lib.hid (S2.out.new #[.int .u8 1, .string (⟨#[]⟩ : ByteArray), .int .i64 0, .int .i64 0] 27)
      obtain ⟨W2, hW⟩ : ∃ W, W1.alloc (.cells #[.int .u8 1, .string (⟨#[]⟩ : ByteArray), .int .i64 0, .int .i64 0] 27) = W := ⟨_, rfl⟩
      have hz3 : W1.heap.size < W2.heap.size := by rw [← hW]; simp
      rw [hW] at S3 ⊢
      clear hW
      have kk := S3.out.at_ (List.mem_cons_of_mem _ (List.mem_cons_self ..))
      have p0 := kk.cell 0
      have pf0 := kk.frozen 0
      have p1 := kk.cell 1
      have pf1 := kk.frozen 1
      have p2 := kk.cell 2
      have pf2 := kk.frozen 2
      clear kk
      go_wp2_with fail
      clear p0 pf0 p1 pf1 p2 pf2 w8
      refine (text_let (HBY.out W2 S3.out.1) (HBS.out W2 S3.out.1) hn hp0n hc HT.out.1 HT.out.2.1 HT.out.2.2).mono ?_
      rintro e w3 ⟨rfl, b1⟩
      have S4 := Lib.hid (S3.out.step b1)
      have hz4 : W1.heap.size < w3.heap.size := Nat.lt_of_lt_of_le hz3 b1.size
      clear b1 hz3
      have kk := S4.out.at_ (List.mem_cons_self ..)
      have q0 := kk.cell 0
      have qf0 := kk.frozen 0
      have q1 := kk.cell 1
      have qf1 := kk.frozen 1
      have q2 := kk.cell 2
      have qf2 := kk.frozen 2
      have q3 := kk.cell 3
      have qf3 := kk.frozen 3
      clear kk
      have kk := S4.out.at_ (List.mem_cons_of_mem _ (List.mem_cons_self ..))
      have p0 := kk.cell 0
      have pf0 := kk.frozen 0
      have p1 := kk.cell 1
      have pf1 := kk.frozen 1
      have p2 := kk.cell 2
      have pf2 := kk.frozen 2
      clear kk
      have hPR : W1.heap.size ≠ w.heap.size + 1 := by omega
      go_upto_region 10 with (fail)
      clear p0 pf0 p1 pf1 p2 pf2 q0 qf0 q1 qf1 q2 qf2 q3 qf3
      have s0 : Held w w3 [(W1.heap.size, 27, (#[.int .u8 1, .string (⟨#[]⟩ : ByteArray), .int .i64 0, .int .i64 0] : Array Value)), (w.heap.size + 1, 83, (#[.slice A n c, .int .i64 (p0 : Int), .bool false] : Array Value)), (w.heap.size, 27, (#[.int .u8 0, .string ⟨#[]⟩, .int .i64 0, .int .i64 0] : Array Value))] := S4.out.sub (by intro x hx; simp only [List.mem_cons, List.not_mem_nil, or_false] at hx ⊢; rcases hx with h | h | h <;> simp [h])
      have s1 : Held w (w3.setCell ⟨W1.heap.size, 1, none⟩ (.string T)) [(W1.heap.size, 27, (#[.int .u8 1, .string T, .int .i64 0, .int .i64 0] : Array Value)), (w.heap.size + 1, 83, (#[.slice A n c, .int .i64 (p0 : Int), .bool false] : Array Value)), (w.heap.size, 27, (#[.int .u8 0, .string ⟨#[]⟩, .int .i64 0, .int .i64 0] : Array Value))] := (s0.set1 (by omega) (by intro x hx; simp only [List.mem_cons, List.not_mem_nil, or_false] at hx; rcases hx with h | h <;> (rw [h]; dsimp only; omega)) 1 (.string T))
      obtain ⟨W3, hW⟩ : ∃ W, (w3.setCell ⟨W1.heap.size, 1, none⟩ (.string T)) = W := ⟨_, rfl⟩
      rw [hW] at s1 ⊢
      have S5 := Lib.hid s1
      have hz5 : W1.heap.size < W3.heap.size := by rw [← hW]; simp [World.setCell]; omega
      clear hW s0 s1 hz4
      have s0 : Held w W3 [(w.heap.size + 1, 83, (#[.slice A n c, .int .i64 (p0 : Int), .bool false] : Array Value)), (W1.heap.size, 27, (#[.int .u8 1, .string T, .int .i64 0, .int .i64 0] : Array Value)), (w.heap.size, 27, (#[.int .u8 0, .string ⟨#[]⟩, .int .i64 0, .int .i64 0] : Array Value))] := S5.out.sub (by intro x hx; simp only [List.mem_cons, List.not_mem_nil, or_false] at hx ⊢; rcases hx with h | h | h <;> simp [h])
      have s1 : Held w (((W3.setCell ⟨w.heap.size + 1, 0, none⟩ (.slice A n c)).setCell ⟨w.heap.size + 1, 1, none⟩ (.int .i64 (p1 : Int))).setCell ⟨w.heap.size + 1, 2, none⟩ (.bool g1)) [(w.heap.size + 1, 83, (#[.slice A n c, .int .i64 (p1 : Int), .bool g1] : Array Value)), (W1.heap.size, 27, (#[.int .u8 1, .string T, .int .i64 0, .int .i64 0] : Array Value)), (w.heap.size, 27, (#[.int .u8 0, .string ⟨#[]⟩, .int .i64 0, .int .i64 0] : Array Value))] := (((s0.set1 (by omega) (by intro x hx; simp only [List.mem_cons, List.not_mem_nil, or_false] at hx; rcases hx with h | h <;> (rw [h]; dsimp only; omega)) 0 (.slice A n c)).set1 (by omega) (by intro x hx; simp only [List.mem_cons, List.not_mem_nil, or_false] at hx; rcases hx with h | h <;> (rw [h]; dsimp only; omega)) 1 (.int .i64 (p1 : Int))).set1 (by omega) (by intro x hx; simp only [List.mem_cons, List.not_mem_nil, or_false] at hx; rcases hx with h | h <;> (rw [h]; dsimp only; omega)) 2 (.bool g1))
      obtain ⟨W4, hW⟩ : ∃ W, (((W3.setCell ⟨w.heap.size + 1, 0, none⟩ (.slice A n c)).setCell ⟨w.heap.size + 1, 1, none⟩ (.int .i64 (p1 : Int))).setCell ⟨w.heap.size + 1, 2, none⟩ (.bool g1)) = W := ⟨_, rfl⟩
      rw [hW] at s1 ⊢
      have S6 := Lib.hid s1
      have hz6 : W1.heap.size < W4.heap.size := by rw [← hW]; simp [World.setCell]; omega
      clear hW s0 s1 hz5
      have kk := S6.out.at_ (List.mem_cons_self ..)
      have p0 := kk.cell 0
      have pf0 := kk.frozen 0
      have p1 := kk.cell 1
      have pf1 := kk.frozen 1
      have p2 := kk.cell 2
      have pf2 := kk.frozen 2
      clear kk
      go_wp2_with fail
      clear p0 pf0 p1 pf1 p2 pf2
      refine (take_let (HBY.out W4 S6.out.1) (HBS.out W4 S6.out.1) hn hp1n H2.out.1 H2.out.2.1 H2.out.2.2).mono ?_
      rintro e w5 ⟨rfl, b1⟩
      have S7 := Lib.hid ((S6.out.step b1).new #[.slice A n c, .int .i64 (p2 : Int), .bool g2] 83)
      have hz7 : W1.heap.size < w5.heap.size := Nat.lt_of_lt_of_le hz6 b1.size
      clear b1 hz6
      go_upto_region 11 with (fail)
      obtain ⟨W5, hW⟩ : ∃ W, w5.alloc (.cells #[.slice A n c, .int .i64 (p2 : Int), .bool g2] 83) = W := ⟨_, rfl⟩
      have hz8 : w5.heap.size < W5.heap.size := by rw [← hW]; simp
      rw [hW] at S7 ⊢
      clear hW
      have x2 := HX.out.2.2.1
      have kk := S7.out.at_ (List.mem_cons_of_mem _ (List.mem_cons_of_mem _ (List.mem_cons_self ..)))
      have q0 := kk.cell 0
      have qf0 := kk.frozen 0
      have q1 := kk.cell 1
      have qf1 := kk.frozen 1
      have q2 := kk.cell 2
      have qf2 := kk.frozen 2
      have q3 := kk.cell 3
      have qf3 := kk.frozen 3
      clear kk
      go_upto_region 12 with (fail)
      clear x2 q0 qf0 q1 qf1 q2 qf2 q3 qf3
      have s0 : Held w W5 [(W1.heap.size, 27, (#[.int .u8 1, .string T, .int .i64 0, .int .i64 0] : Array Value)), (w5.heap.size, 83, (#[.slice A n c, .int .i64 (p2 : Int), .bool g2] : Array Value)), (w.heap.size + 1, 83, (#[.slice A n c, .int .i64 (p1 : Int), .bool g1] : Array Value)), (w.heap.size, 27, (#[.int .u8 0, .string ⟨#[]⟩, .int .i64 0, .int .i64 0] : Array Value))] := S7.out.sub (by intro x hx; simp only [List.mem_cons, List.not_mem_nil, or_false] at hx ⊢; rcases hx with h | h | h | h <;> simp [h])
      have s1 : Held w (W5.setCell ⟨W1.heap.size, 2, none⟩ (.int .i64 tt)) [(W1.heap.size, 27, (#[.int .u8 1, .string T, .int .i64 tt, .int .i64 0] : Array Value)), (w5.heap.size, 83, (#[.slice A n c, .int .i64 (p2 : Int), .bool g2] : Array Value)), (w.heap.size + 1, 83, (#[.slice A n c, .int .i64 (p1 : Int), .bool g1] : Array Value)), (w.heap.size, 27, (#[.int .u8 0, .string ⟨#[]⟩, .int .i64 0, .int .i64 0] : Array Value))] := (s0.set1 (by omega) (by intro x hx; simp only [List.mem_cons, List.not_mem_nil, or_false] at hx; rcases hx with h | h | h <;> (rw [h]; dsimp only; omega)) 2 (.int .i64 tt))
      obtain ⟨W6, hW⟩ : ∃ W, (W5.setCell ⟨W1.heap.size, 2, none⟩ (.int .i64 tt)) = W := ⟨_, rfl⟩
      rw [hW] at s1 ⊢
      have S8 := Lib.hid s1
      have hz9 : w5.heap.size < W6.heap.size := by rw [← hW]; simp [World.setCell]; omega
      clear hW s0 s1 hz8
      have kk := S8.out.at_ (List.mem_cons_self ..)
      have q0 := kk.cell 0
      have qf0 := kk.frozen 0
      have q1 := kk.cell 1
      have qf1 := kk.frozen 1
      have q2 := kk.cell 2
      have qf2 := kk.frozen 2
      have q3 := kk.cell 3
      have qf3 := kk.frozen 3
      clear kk
      have kk := S8.out.at_ (List.mem_cons_of_mem _ (List.mem_cons_self ..))
      have p0 := kk.cell 0
      have pf0 := kk.frozen 0
      have p1 := kk.cell 1
      have pf1 := kk.frozen 1
      have p2 := kk.cell 2
      have pf2 := kk.frozen 2
      clear kk
      go_wp2_with fail
      clear p0 pf0 p1 pf1 p2 pf2 q0 qf0 q1 qf1 q2 qf2 q3 qf3
      refine (take_let (HBY.out W6 S8.out.1) (HBS.out W6 S8.out.1) hn hp2n H3.out.1 H3.out.2.1 H3.out.2.2).mono ?_
      rintro e w7 ⟨rfl, b1⟩
      have S9 := Lib.hid (S8.out.step b1)
      have hza : w5.heap.size < w7.heap.size := Nat.lt_of_lt_of_le hz9 b1.size
      clear b1 hz9
      have kk := S9.out.at_ (List.mem_cons_of_mem _ (List.mem_cons_self ..))
      have p0 := kk.cell 0
      have pf0 := kk.frozen 0
      have p1 := kk.cell 1
      have pf1 := kk.frozen 1
      have p2 := kk.cell 2
      have pf2 := kk.frozen 2
      clear kk
      go_upto_region 14 with (fail)
      clear p0 pf0 p1 pf1 p2 pf2
      have s0 : Held w w7 [(w5.heap.size, 83, (#[.slice A n c, .int .i64 (p2 : Int), .bool g2] : Array Value)), (W1.heap.size, 27, (#[.int .u8 1, .string T, .int .i64 tt, .int .i64 0] : Array Value)), (w.heap.size + 1, 83, (#[.slice A n c, .int .i64 (p1 : Int), .bool g1] : Array Value)), (w.heap.size, 27, (#[.int .u8 0, .string ⟨#[]⟩, .int .i64 0, .int .i64 0] : Array Value))] := S9.out.sub (by intro x hx; simp only [List.mem_cons, List.not_mem_nil, or_false] at hx ⊢; rcases hx with h | h | h | h <;> simp [h])
      have s1 : Held w (((w7.setCell ⟨w5.heap.size, 0, none⟩ (.slice A n c)).setCell ⟨w5.heap.size, 1, none⟩ (.int .i64 (p3 : Int))).setCell ⟨w5.heap.size, 2, none⟩ (.bool g3)) [(w5.heap.size, 83, (#[.slice A n c, .int .i64 (p3 : Int), .bool g3] : Array Value)), (W1.heap.size, 27, (#[.int .u8 1, .string T, .int .i64 tt, .int .i64 0] : Array Value)), (w.heap.size + 1, 83, (#[.slice A n c, .int .i64 (p1 : Int), .bool g1] : Array Value)), (w.heap.size, 27, (#[.int .u8 0, .string ⟨#[]⟩, .int .i64 0, .int .i64 0] : Array Value))] := (((s0.set1 (by omega) (by intro x hx; simp only [List.mem_cons, List.not_mem_nil, or_false] at hx; rcases hx with h | h | h <;> (rw [h]; dsimp only; omega)) 0 (.slice A n c)).set1 (by omega) (by intro x hx; simp only [List.mem_cons, List.not_mem_nil, or_false] at hx; rcases hx with h | h | h <;> (rw [h]; dsimp only; omega)) 1 (.int .i64 (p3 : Int))).set1 (by omega) (by intro x hx; simp only [List.mem_cons, List.not_mem_nil, or_false] at hx; rcases hx with h | h | h <;> (rw [h]; dsimp only; omega)) 2 (.bool g3))
      obtain ⟨W7, hW⟩ : ∃ W, (((w7.setCell ⟨w5.heap.size, 0, none⟩ (.slice A n c)).setCell ⟨w5.heap.size, 1, none⟩ (.int .i64 (p3 : Int))).setCell ⟨w5.heap.size, 2, none⟩ (.bool g3)) = W := ⟨_, rfl⟩
      rw [hW] at s1 ⊢
      have Sa := Lib.hid s1
      clear hW s0 s1
      have x3 := HX.out.2.2.2
      have kk := Sa.out.at_ (List.mem_cons_of_mem _ (List.mem_cons_self ..))
      have q0 := kk.cell 0
      have qf0 := kk.frozen 0
      have q1 := kk.cell 1
      have qf1 := kk.frozen 1
      have q2 := kk.cell 2
      have qf2 := kk.frozen 2
      have q3 := kk.cell 3
      have qf3 := kk.frozen 3
      clear kk
      go_upto_region 15 with (fail)
      clear x3 q0 qf0 q1 qf1 q2 qf2 q3 qf3
      have s0 : Held w W7 [(W1.heap.size, 27, (#[.int .u8 1, .string T, .int .i64 tt, .int .i64 0] : Array Value)), (w5.heap.size, 83, (#[.slice A n c, .int .i64 (p3 : Int), .bool g3] : Array Value)), (w.heap.size + 1, 83, (#[.slice A n c, .int .i64 (p1 : Int), .bool g1] : Array Value)), (w.heap.size, 27, (#[.int .u8 0, .string ⟨#[]⟩, .int .i64 0, .int .i64 0] : Array Value))] := Sa.out.sub (by intro x hx; simp only [List.mem_cons, List.not_mem_nil, or_false] at hx ⊢; rcases hx with h | h | h | h <;> simp [h])
      have s1 : Held w (W7.setCell ⟨W1.heap.size, 3, none⟩ (.int .i64 vv)) [(W1.heap.size, 27, (#[.int .u8 1, .string T, .int .i64 tt, .int .i64 vv] : Array Value)), (w5.heap.size, 83, (#[.slice A n c, .int .i64 (p3 : Int), .bool g3] : Array Value)), (w.heap.size + 1, 83, (#[.slice A n c, .int .i64 (p1 : Int), .bool g1] : Array Value)), (w.heap.size, 27, (#[.int .u8 0, .string ⟨#[]⟩, .int .i64 0, .int .i64 0] : Array Value))] := (s0.set1 (by omega) (by intro x hx; simp only [List.mem_cons, List.not_mem_nil, or_false] at hx; rcases hx with h | h | h <;> (rw [h]; dsimp only; omega)) 3 (.int .i64 vv))
      obtain ⟨W8, hW⟩ : ∃ W, (W7.setCell ⟨W1.heap.size, 3, none⟩ (.int .i64 vv)) = W := ⟨_, rfl⟩
      rw [hW] at s1 ⊢
      have Sb := Lib.hid s1
      clear hW s0 s1
      rcases g3 with _ | _
      · have hnx := HX.out.1
        rw [if_neg (by decide)] at hnx
        have HN := Lib.hid hnx
        have HPOS : Hid (((a + (p3 - a) : Nat) : Int) = (p3 : Int)) := Lib.hid (by have := HX.out.2.1; omega)
        clear hnx
        have kk := Sb.out.at_ (List.mem_cons_self ..)
        have q0 := kk.cell 0
        have qf0 := kk.frozen 0
        have q1 := kk.cell 1
        have qf1 := kk.frozen 1
        have q2 := kk.cell 2
        have qf2 := kk.frozen 2
        have q3 := kk.cell 3
        have qf3 := kk.frozen 3
        clear kk
        have kk := Sb.out.at_ (List.mem_cons_of_mem _ (List.mem_cons_self ..))
        have p0 := kk.cell 0
        have pf0 := kk.frozen 0
        have p1 := kk.cell 1
        have pf1 := kk.frozen 1
        have p2 := kk.cell 2
        have pf2 := kk.frozen 2
        clear kk
        have kk := Sb.out.at_ (List.mem_cons_of_mem _ (List.mem_cons_of_mem _ (List.mem_cons_of_mem _ (List.mem_cons_self ..))))
        have o0 := kk.cell 0
        have of0 := kk.frozen 0
        have o1 := kk.cell 1
        have of1 := kk.frozen 1
        have o2 := kk.cell 2
        have of2 := kk.frozen 2
        have o3 := kk.cell 3
        have of3 := kk.frozen 3
        clear kk
        have n1 : w.heap.size ≠ W1.heap.size := by omega
        have n2 : w.heap.size ≠ w5.heap.size := by omega
        go_wp2_with fail
        go_region
        go_wp2_with fail
        clear q0 qf0 q1 qf1 q2 qf2 q3 qf3 p0 pf0 p1 pf1 p2 pf2 o0 of0 o1 of1 o2 of2 o3 of3
        have s0 : Held w W8 [(w.heap.size, 27, (#[.int .u8 0, .string ⟨#[]⟩, .int .i64 0, .int .i64 0] : Array Value)), (W1.heap.size, 27, (#[.int .u8 1, .string T, .int .i64 tt, .int .i64 vv] : Array Value)), (w5.heap.size, 83, (#[.slice A n c, .int .i64 (p3 : Int), .bool false] : Array Value)), (w.heap.size + 1, 83, (#[.slice A n c, .int .i64 (p1 : Int), .bool g1] : Array Value))] := Sb.out.sub (by intro x hx; simp only [List.mem_cons, List.not_mem_nil, or_false] at hx ⊢; rcases hx with h | h | h | h <;> simp [h])
        have s1 : Held w ((((W8.setCell ⟨w.heap.size, 0, none⟩ (.int .u8 1)).setCell ⟨w.heap.size, 1, none⟩ (.string T)).setCell ⟨w.heap.size, 2, none⟩ (.int .i64 tt)).setCell ⟨w.heap.size, 3, none⟩ (.int .i64 vv)) [(w.heap.size, 27, (#[.int .u8 1, .string T, .int .i64 tt, .int .i64 vv] : Array Value)), (W1.heap.size, 27, (#[.int .u8 1, .string T, .int .i64 tt, .int .i64 vv] : Array Value)), (w5.heap.size, 83, (#[.slice A n c, .int .i64 (p3 : Int), .bool false] : Array Value)), (w.heap.size + 1, 83, (#[.slice A n c, .int .i64 (p1 : Int), .bool g1] : Array Value))] := ((((s0.set1 (by omega) (by intro x hx; simp only [List.mem_cons, List.not_mem_nil, or_false] at hx; rcases hx with h | h | h <;> (rw [h]; dsimp only; omega)) 0 (.int .u8 1)).set1 (by omega) (by intro x hx; simp only [List.mem_cons, List.not_mem_nil, or_false] at hx; rcases hx with h | h | h <;> (rw [h]; dsimp only; omega)) 1 (.string T)).set1 (by omega) (by intro x hx; simp only [List.mem_cons, List.not_mem_nil, or_false] at hx; rcases hx with h | h | h <;> (rw [h]; dsimp only; omega)) 2 (.int .i64 tt)).set1 (by omega) (by intro x hx; simp only [List.mem_cons, List.not_mem_nil, or_false] at hx; rcases hx with h | h | h <;> (rw [h]; dsimp only; omega)) 3 (.int .i64 vv))
        obtain ⟨W9, hW⟩ : ∃ W, ((((W8.setCell ⟨w.heap.size, 0, none⟩ (.int .u8 1)).setCell ⟨w.heap.size, 1, none⟩ (.string T)).setCell ⟨w.heap.size, 2, none⟩ (.int .i64 tt)).setCell ⟨w.heap.size, 3, none⟩ (.int .i64 vv)) = W := ⟨_, rfl⟩
        rw [hW] at s1 ⊢
        have SF := Lib.hid s1
        clear hW s0 s1
        have hfin := SF.out.at_ (List.mem_cons_self ..)
        have f0 := hfin.cell 0
        have f1 := hfin.cell 1
        have f2 := hfin.cell 2
        have f3 := hfin.cell 3
        clear hfin
        refine bodyPost_ret (v := .tuple #[.agg #[.int .u8 1, .string T, .int .i64 tt, .int .i64 vv], .int .i64 (p3 : Int), .int .i64 0]) ?_ rfl ?_
        · simp [results, Try.results33, go_sem, f0, f1, f2, f3]
        · unfold NextP
          first | rw [HN.out] | rw [← hl, HN.out]
          exact ⟨by dsimp only; rw [HPOS.out]; try rfl, SF.out.1.drew⟩
      · have hnx := HX.out.1
        rw [if_pos rfl] at hnx
        have HN := Lib.hid hnx
        clear hnx
        have kk := Sb.out.at_ (List.mem_cons_of_mem _ (List.mem_cons_self ..))
        have p0 := kk.cell 0
        have pf0 := kk.frozen 0
        have p1 := kk.cell 1
        have pf1 := kk.frozen 1
        have p2 := kk.cell 2
        have pf2 := kk.frozen 2
        clear kk
        have kk := Sb.out.at_ (List.mem_cons_of_mem _ (List.mem_cons_of_mem _ (List.mem_cons_of_mem _ (List.mem_cons_self ..))))
        have o0 := kk.cell 0
        have of0 := kk.frozen 0
        have o1 := kk.cell 1
        have of1 := kk.frozen 1
        have o2 := kk.cell 2
        have of2 := kk.frozen 2
        have o3 := kk.cell 3
        have of3 := kk.frozen 3
        clear kk
        go_wp2_with fail
        clear p0 pf0 p1 pf1 p2 pf2 o0 of0 o1 of1 o2 of2 o3 of3
        have s0 : Held w W8 [(w.heap.size, 27, (#[.int .u8 0, .string ⟨#[]⟩, .int .i64 0, .int .i64 0] : Array Value)), (W1.heap.size, 27, (#[.int .u8 1, .string T, .int .i64 tt, .int .i64 vv] : Array Value)), (w5.heap.size, 83, (#[.slice A n c, .int .i64 (p3 : Int), .bool true] : Array Value)), (w.heap.size + 1, 83, (#[.slice A n c, .int .i64 (p1 : Int), .bool g1] : Array Value))] := Sb.out.sub (by intro x hx; simp only [List.mem_cons, List.not_mem_nil, or_false] at hx ⊢; rcases hx with h | h | h | h <;> simp [h])
        have s1 : Held w ((((W8.setCell ⟨w.heap.size, 0, none⟩ (.int .u8 0)).setCell ⟨w.heap.size, 1, none⟩ (.string ⟨#[]⟩)).setCell ⟨w.heap.size, 2, none⟩ (.int .i64 0)).setCell ⟨w.heap.size, 3, none⟩ (.int .i64 0)) [(w.heap.size, 27, (#[.int .u8 0, .string ⟨#[]⟩, .int .i64 0, .int .i64 0] : Array Value)), (W1.heap.size, 27, (#[.int .u8 1, .string T, .int .i64 tt, .int .i64 vv] : Array Value)), (w5.heap.size, 83, (#[.slice A n c, .int .i64 (p3 : Int), .bool true] : Array Value)), (w.heap.size + 1, 83, (#[.slice A n c, .int .i64 (p1 : Int), .bool g1] : Array Value))] := ((((s0.set1 (by omega) (by intro x hx; simp only [List.mem_cons, List.not_mem_nil, or_false] at hx; rcases hx with h | h | h <;> (rw [h]; dsimp only; omega)) 0 (.int .u8 0)).set1 (by omega) (by intro x hx; simp only [List.mem_cons, List.not_mem_nil, or_false] at hx; rcases hx with h | h | h <;> (rw [h]; dsimp only; omega)) 1 (.string ⟨#[]⟩)).set1 (by omega) (by intro x hx; simp only [List.mem_cons, List.not_mem_nil, or_false] at hx; rcases hx with h | h | h <;> (rw [h]; dsimp only; omega)) 2 (.int .i64 0)).set1 (by omega) (by intro x hx; simp only [List.mem_cons, List.not_mem_nil, or_false] at hx; rcases hx with h | h | h <;> (rw [h]; dsimp only; omega)) 3 (.int .i64 0))
        obtain ⟨W9, hW⟩ : ∃ W, ((((W8.setCell ⟨w.heap.size, 0, none⟩ (.int .u8 0)).setCell ⟨w.heap.size, 1, none⟩ (.string ⟨#[]⟩)).setCell ⟨w.heap.size, 2, none⟩ (.int .i64 0)).setCell ⟨w.heap.size, 3, none⟩ (.int .i64 0)) = W := ⟨_, rfl⟩
        rw [hW] at s1 ⊢
        have SF := Lib.hid s1
        clear hW s0 s1
        have hfin := SF.out.at_ (List.mem_cons_self ..)
        have f0 := hfin.cell 0
        have f1 := hfin.cell 1
        have f2 := hfin.cell 2
        have f3 := hfin.cell 3
        clear hfin
        refine bodyPost_ret (v := .tuple #[.agg #[.int .u8 0, .string ⟨#[]⟩, .int .i64 0, .int .i64 0], .int .i64 (a : Int), .int .i64 20]) ?_ rfl ?_
        · simp [results, Try.results33, go_sem, f0, f1, f2, f3]
        · unfold NextP
          first | rw [HN.out] | rw [← hl, HN.out]
          exact ⟨rfl, SF.out.1⟩
    · by_cases k2 : k = 2
      · subst k2
        rw [show ((2 : Nat) : Int) = 2 from rfl] at w8 ⊢
        obtain ⟨m2, hm2⟩ : ∃ p, Pk.num (Pk.taken false (b.drop p0) 8) = p := ⟨_, rfl⟩
        obtain ⟨p2, hp2⟩ : ∃ p, goes false (b.drop p0) p0 8 = p := ⟨_, rfl⟩
        obtain ⟨g2, hg2⟩ : ∃ p, Pk.fails false (b.drop p0) 8 = p := ⟨_, rfl⟩
        have hnx := nx_two (b := b) (p2 := p2) (f2 := g2) hl (by rw [hp0]; exact hp2) (by rw [hp0]; exact hg2)
        rw [hp0, hm2] at hnx
        have hle : a ≤ p2 := by
          have h2 : p0 ≤ p2 := by rw [← hp2]; unfold goes; split <;> omega
          omega
        obtain ⟨tt, htt⟩ : ∃ x, Ev.sg m2 = x := ⟨_, rfl⟩
        rw [htt] at hnx
        have x2 : IntKind.i64.wrap (m2 : Int) = tt := htt
        have HX := Lib.hid (And.intro hnx (And.intro hle x2))
        have H2 := Lib.hid (And.intro hm2 (And.intro hp2 hg2))
        clear hm2 hp2 hg2 hnx hle htt x2 k1
        go_upto_region 10 with (fail)
        have S3 := Lib.hid (S2.out.new #[.int .u8 2, .string (⟨#[]⟩ : ByteArray), .int .i64 0, .int .i64 0] 27)
        obtain ⟨W2, hW⟩ : ∃ W, W1.alloc (.cells #[.int .u8 2, .string (⟨#[]⟩ : ByteArray), .int .i64 0, .int .i64 0] 27) = W := ⟨_, rfl⟩
        have hz3 : W1.heap.size < W2.heap.size := by rw [← hW]; simp
        rw [hW] at S3 ⊢
        clear hW
        have kk := S3.out.at_ (List.mem_cons_of_mem _ (List.mem_cons_self ..))
        have p0 := kk.cell 0
        have pf0 := kk.frozen 0
        have p1 := kk.cell 1
        have pf1 := kk.frozen 1
        have p2 := kk.cell 2
        have pf2 := kk.frozen 2
        clear kk
        go_wp2_with fail
        clear p0 pf0 p1 pf1 p2 pf2 w8
        refine (take_let (HBY.out W2 S3.out.1) (HBS.out W2 S3.out.1) hn hp0n H2.out.1 H2.out.2.1 H2.out.2.2).mono ?_
        rintro e w5 ⟨rfl, b1⟩
        have S7 := Lib.hid ((S3.out.step b1).new #[.slice A n c, .int .i64 (p2 : Int), .bool g2] 83)
        have hz7 : W1.heap.size < w5.heap.size := Nat.lt_of_lt_of_le hz3 b1.size
        clear b1 hz3
        go_upto_region 11 with (fail)
        obtain ⟨W5, hW⟩ : ∃ W, w5.alloc (.cells #[.slice A n c, .int .i64 (p2 : Int), .bool g2] 83) = W := ⟨_, rfl⟩
        rw [hW] at S7 ⊢
        clear hW
        have x2 := HX.out.2.2
        have kk := S7.out.at_ (List.mem_cons_of_mem _ (List.mem_cons_self ..))
        have q0 := kk.cell 0
        have qf0 := kk.frozen 0
        have q1 := kk.cell 1
        have qf1 := kk.frozen 1
        have q2 := kk.cell 2
        have qf2 := kk.frozen 2
        have q3 := kk.cell 3
        have qf3 := kk.frozen 3
        clear kk
        go_upto_region 12 with (fail)
        clear x2 q0 qf0 q1 qf1 q2 qf2 q3 qf3
        have s0 : Held w W5 [(W1.heap.size, 27, (#[.int .u8 2, .string (⟨#[]⟩ : ByteArray), .int .i64 0, .int .i64 0] : Array Value)), (w5.heap.size, 83, (#[.slice A n c, .int .i64 (p2 : Int), .bool g2] : Array Value)), (w.heap.size + 1, 83, (#[.slice A n c, .int .i64 (p0 : Int), .bool false] : Array Value)), (w.heap.size, 27, (#[.int .u8 0, .string ⟨#[]⟩, .int .i64 0, .int .i64 0] : Array Value))] := S7.out.sub (by intro x hx; simp only [List.mem_cons, List.not_mem_nil, or_false] at hx ⊢; rcases hx with h | h | h | h <;> simp [h])
        have s1 : Held w (W5.setCell ⟨W1.heap.size, 2, none⟩ (.int .i64 tt)) [(W1.heap.size, 27, (#[.int .u8 2, .string (⟨#[]⟩ : ByteArray), .int .i64 tt, .int .i64 0] : Array Value)), (w5.heap.size, 83, (#[.slice A n c, .int .i64 (p2 : Int), .bool g2] : Array Value)), (w.heap.size + 1, 83, (#[.slice A n c, .int .i64 (p0 : Int), .bool false] : Array Value)), (w.heap.size, 27, (#[.int .u8 0, .string ⟨#[]⟩, .int .i64 0, .int .i64 0] : Array Value))] := (s0.set1 (by omega) (by intro x hx; simp only [List.mem_cons, List.not_mem_nil, or_false] at hx; rcases hx with h | h | h <;> (rw [h]; dsimp only; omega)) 2 (.int .i64 tt))
        obtain ⟨W8, hW⟩ : ∃ W, (W5.setCell ⟨W1.heap.size, 2, none⟩ (.int .i64 tt)) = W := ⟨_, rfl⟩
        rw [hW] at s1 ⊢
        have S8 := Lib.hid s1
        clear hW s0 s1
        have kk := S8.out.at_ (List.mem_cons_self ..)
        have q0 := kk.cell 0
        have qf0 := kk.frozen 0
        have q1 := kk.cell 1
        have qf1 := kk.frozen 1
        have q2 := kk.cell 2
        have qf2 := kk.frozen 2
        have q3 := kk.cell 3
        have qf3 := kk.frozen 3
        clear kk
        go_upto_region 15 with (fail)
        clear q0 qf0 q1 qf1 q2 qf2 q3 qf3
        rcases g2 with _ | _
        · have hnx := HX.out.1
          rw [if_neg (by decide)] at hnx
          have HN := Lib.hid hnx
          have HPOS : Hid (((a + (p2 - a) : Nat) : Int) = (p2 : Int)) := Lib.hid (by have := HX.out.2.1; omega)
          clear hnx
          have kk := S8.out.at_ (List.mem_cons_self ..)
          have q0 := kk.cell 0
          have qf0 := kk.frozen 0
          have q1 := kk.cell 1
          have qf1 := kk.frozen 1
          have q2 := kk.cell 2
          have qf2 := kk.frozen 2
          have q3 := kk.cell 3
          have qf3 := kk.frozen 3
          clear kk
          have kk := S8.out.at_ (List.mem_cons_of_mem _ (List.mem_cons_self ..))
          have p0 := kk.cell 0
          have pf0 := kk.frozen 0
          have p1 := kk.cell 1
          have pf1 := kk.frozen 1
          have p2 := kk.cell 2
          have pf2 := kk.frozen 2
          clear kk
          have kk := S8.out.at_ (List.mem_cons_of_mem _ (List.mem_cons_of_mem _ (List.mem_cons_of_mem _ (List.mem_cons_self ..))))
          have o0 := kk.cell 0
          have of0 := kk.frozen 0
          have o1 := kk.cell 1
          have of1 := kk.frozen 1
          have o2 := kk.cell 2
          have of2 := kk.frozen 2
          have o3 := kk.cell 3
          have of3 := kk.frozen 3
          clear kk
          have n1 : w.heap.size ≠ W1.heap.size := by omega
          have n2 : w.heap.size ≠ w5.heap.size := by omega
          go_wp2_with fail
          go_region
          go_wp2_with fail
          clear q0 qf0 q1 qf1 q2 qf2 q3 qf3 p0 pf0 p1 pf1 p2 pf2 o0 of0 o1 of1 o2 of2 o3 of3
          have s0 : Held w W8 [(w.heap.size, 27, (#[.int .u8 0, .string ⟨#[]⟩, .int .i64 0, .int .i64 0] : Array Value)), (W1.heap.size, 27, (#[.int .u8 2, .string (⟨#[]⟩ : ByteArray), .int .i64 tt, .int .i64 0] : Array Value)), (w5.heap.size, 83, (#[.slice A n c, .int .i64 (p2 : Int), .bool false] : Array Value)), (w.heap.size + 1, 83, (#[.slice A n c, .int .i64 (p0 : Int), .bool false] : Array Value))] := S8.out.sub (by intro x hx; simp only [List.mem_cons, List.not_mem_nil, or_false] at hx ⊢; rcases hx with h | h | h | h <;> simp [h])
          have s1 : Held w ((((W8.setCell ⟨w.heap.size, 0, none⟩ (.int .u8 2)).setCell ⟨w.heap.size, 1, none⟩ (.string (⟨#[]⟩ : ByteArray))).setCell ⟨w.heap.size, 2, none⟩ (.int .i64 tt)).setCell ⟨w.heap.size, 3, none⟩ (.int .i64 0)) [(w.heap.size, 27, (#[.int .u8 2, .string (⟨#[]⟩ : ByteArray), .int .i64 tt, .int .i64 0] : Array Value)), (W1.heap.size, 27, (#[.int .u8 2, .string (⟨#[]⟩ : ByteArray), .int .i64 tt, .int .i64 0] : Array Value)), (w5.heap.size, 83, (#[.slice A n c, .int .i64 (p2 : Int), .bool false] : Array Value)), (w.heap.size + 1, 83, (#[.slice A n c, .int .i64 (p0 : Int), .bool false] : Array Value))] := ((((s0.set1 (by omega) (by intro x hx; simp only [List.mem_cons, List.not_mem_nil, or_false] at hx; rcases hx with h | h | h <;> (rw [h]; dsimp only; omega)) 0 (.int .u8 2)).set1 (by omega) (by intro x hx; simp only [List.mem_cons, List.not_mem_nil, or_false] at hx; rcases hx with h | h | h <;> (rw [h]; dsimp only; omega)) 1 (.string (⟨#[]⟩ : ByteArray))).set1 (by omega) (by intro x hx; simp only [List.mem_cons, List.not_mem_nil, or_false] at hx; rcases hx with h | h | h <;> (rw [h]; dsimp only; omega)) 2 (.int .i64 tt)).set1 (by omega) (by intro x hx; simp only [List.mem_cons, List.not_mem_nil, or_false] at hx; rcases hx with h | h | h <;> (rw [h]; dsimp only; omega)) 3 (.int .i64 0))
          obtain ⟨W9, hW⟩ : ∃ W, ((((W8.setCell ⟨w.heap.size, 0, none⟩ (.int .u8 2)).setCell ⟨w.heap.size, 1, none⟩ (.string (⟨#[]⟩ : ByteArray))).setCell ⟨w.heap.size, 2, none⟩ (.int .i64 tt)).setCell ⟨w.heap.size, 3, none⟩ (.int .i64 0)) = W := ⟨_, rfl⟩
          rw [hW] at s1 ⊢
          have SF := Lib.hid s1
          clear hW s0 s1
          have hfin := SF.out.at_ (List.mem_cons_self ..)
          have f0 := hfin.cell 0
          have f1 := hfin.cell 1
          have f2 := hfin.cell 2
          have f3 := hfin.cell 3
          clear hfin
          refine bodyPost_ret (v := .tuple #[.agg #[.int .u8 2, .string (⟨#[]⟩ : ByteArray), .int .i64 tt, .int .i64 0], .int .i64 (p2 : Int), .int .i64 0]) ?_ rfl ?_
          · simp [results, Try.results33, go_sem, f0, f1, f2, f3]
          · unfold NextP
            first | rw [HN.out] | rw [← hl, HN.out]
            exact ⟨by dsimp only; rw [HPOS.out]; try rfl, SF.out.1.drew⟩
        · have hnx := HX.out.1
          rw [if_pos rfl] at hnx
          have HN := Lib.hid hnx
          clear hnx
          have kk := S8.out.at_ (List.mem_cons_of_mem _ (List.mem_cons_self ..))
          have p0 := kk.cell 0
          have pf0 := kk.frozen 0
          have p1 := kk.cell 1
          have pf1 := kk.frozen 1
          have p2 := kk.cell 2
          have pf2 := kk.frozen 2
          clear kk
          have kk := S8.out.at_ (List.mem_cons_of_mem _ (List.mem_cons_of_mem _ (List.mem_cons_of_mem _ (List.mem_cons_self ..))))
          have o0 := kk.cell 0
          have of0 := kk.frozen 0
          have o1 := kk.cell 1
          have of1 := kk.frozen 1
          have o2 := kk.cell 2
          have of2 := kk.frozen 2
          have o3 := kk.cell 3
          have of3 := kk.frozen 3
          clear kk
          go_wp2_with fail
          clear p0 pf0 p1 pf1 p2 pf2 o0 of0 o1 of1 o2 of2 o3 of3
          have s0 : Held w W8 [(w.heap.size, 27, (#[.int .u8 0, .string ⟨#[]⟩, .int .i64 0, .int .i64 0] : Array Value)), (W1.heap.size, 27, (#[.int .u8 2, .string (⟨#[]⟩ : ByteArray), .int .i64 tt, .int .i64 0] : Array Value)), (w5.heap.size, 83, (#[.slice A n c, .int .i64 (p2 : Int), .bool true] : Array Value)), (w.heap.size + 1, 83, (#[.slice A n c, .int .i64 (p0 : Int), .bool false] : Array Value))] := S8.out.sub (by intro x hx; simp only [List.mem_cons, List.not_mem_nil, or_false] at hx ⊢; rcases hx with h | h | h | h <;> simp [h])
          have s1 : Held w ((((W8.setCell ⟨w.heap.size, 0, none⟩ (.int .u8 0)).setCell ⟨w.heap.size, 1, none⟩ (.string ⟨#[]⟩)).setCell ⟨w.heap.size, 2, none⟩ (.int .i64 0)).setCell ⟨w.heap.size, 3, none⟩ (.int .i64 0)) [(w.heap.size, 27, (#[.int .u8 0, .string ⟨#[]⟩, .int .i64 0, .int .i64 0] : Array Value)), (W1.heap.size, 27, (#[.int .u8 2, .string (⟨#[]⟩ : ByteArray), .int .i64 tt, .int .i64 0] : Array Value)), (w5.heap.size, 83, (#[.slice A n c, .int .i64 (p2 : Int), .bool true] : Array Value)), (w.heap.size + 1, 83, (#[.slice A n c, .int .i64 (p0 : Int), .bool false] : Array Value))] := ((((s0.set1 (by omega) (by intro x hx; simp only [List.mem_cons, List.not_mem_nil, or_false] at hx; rcases hx with h | h | h <;> (rw [h]; dsimp only; omega)) 0 (.int .u8 0)).set1 (by omega) (by intro x hx; simp only [List.mem_cons, List.not_mem_nil, or_false] at hx; rcases hx with h | h | h <;> (rw [h]; dsimp only; omega)) 1 (.string ⟨#[]⟩)).set1 (by omega) (by intro x hx; simp only [List.mem_cons, List.not_mem_nil, or_false] at hx; rcases hx with h | h | h <;> (rw [h]; dsimp only; omega)) 2 (.int .i64 0)).set1 (by omega) (by intro x hx; simp only [List.mem_cons, List.not_mem_nil, or_false] at hx; rcases hx with h | h | h <;> (rw [h]; dsimp only; omega)) 3 (.int .i64 0))
          obtain ⟨W9, hW⟩ : ∃ W, ((((W8.setCell ⟨w.heap.size, 0, none⟩ (.int .u8 0)).setCell ⟨w.heap.size, 1, none⟩ (.string ⟨#[]⟩)).setCell ⟨w.heap.size, 2, none⟩ (.int .i64 0)).setCell ⟨w.heap.size, 3, none⟩ (.int .i64 0)) = W := ⟨_, rfl⟩
          rw [hW] at s1 ⊢
          have SF := Lib.hid s1
          clear hW s0 s1
          have hfin := SF.out.at_ (List.mem_cons_self ..)
          have f0 := hfin.cell 0
          have f1 := hfin.cell 1
          have f2 := hfin.cell 2
          have f3 := hfin.cell 3
          clear hfin
          refine bodyPost_ret (v := .tuple #[.agg #[.int .u8 0, .string ⟨#[]⟩, .int .i64 0, .int .i64 0], .int .i64 (a : Int), .int .i64 20]) ?_ rfl ?_
          · simp [results, Try.results33, go_sem, f0, f1, f2, f3]
          · unfold NextP
            first | rw [HN.out] | rw [← hl, HN.out]
            exact ⟨rfl, SF.out.1⟩
      · have hnx := nx_else hl k1 k2
        have HN := Lib.hid hnx
        have i1 : ((k : Int) == 1) = false := by rw [beq_eq_false_iff_ne]; omega
        have i2 : ((k : Int) == 2) = false := by rw [beq_eq_false_iff_ne]; omega
        have i3 : ((k : Int) != 1) = true := by rw [bne_iff_ne]; omega
        have i4 : ((k : Int) != 2) = true := by rw [bne_iff_ne]; omega
        have i5 : ¬ (k : Int) = 1 := by omega
        have i6 : ¬ (k : Int) = 2 := by omega
        clear hnx
        go_upto_region 7 with (fail)
        have S3 := Lib.hid (S2.out.new #[.int .u8 (k : Int), .string (⟨#[]⟩ : ByteArray), .int .i64 0, .int .i64 0] 27)
        obtain ⟨W2, hW⟩ : ∃ W, W1.alloc (.cells #[.int .u8 (k : Int), .string (⟨#[]⟩ : ByteArray), .int .i64 0, .int .i64 0] 27) = W := ⟨_, rfl⟩
        have hz3 : W1.heap.size < W2.heap.size := by rw [← hW]; simp
        rw [hW] at S3 ⊢
        clear hW
        have kk := S3.out.at_ (List.mem_cons_of_mem _ (List.mem_cons_of_mem _ (List.mem_cons_self ..)))
        have o0 := kk.cell 0
        have of0 := kk.frozen 0
        have o1 := kk.cell 1
        have of1 := kk.frozen 1
        have o2 := kk.cell 2
        have of2 := kk.frozen 2
        have o3 := kk.cell 3
        have of3 := kk.frozen 3
        clear kk
        go_wp2_with fail
        clear o0 of0 o1 of1 o2 of2 o3 of3
        have s0 : Held w W2 [(w.heap.size, 27, (#[.int .u8 0, .string ⟨#[]⟩, .int .i64 0, .int .i64 0] : Array Value)), (W1.heap.size, 27, (#[.int .u8 (k : Int), .string (⟨#[]⟩ : ByteArray), .int .i64 0, .int .i64 0] : Array Value)), (w.heap.size + 1, 83, (#[.slice A n c, .int .i64 (p0 : Int), .bool false] : Array Value))] := S3.out.sub (by intro x hx; simp only [List.mem_cons, List.not_mem_nil, or_false] at hx ⊢; rcases hx with h | h | h <;> simp [h])
        have s1 : Held w ((((W2.setCell ⟨w.heap.size, 0, none⟩ (.int .u8 0)).setCell ⟨w.heap.size, 1, none⟩ (.string ⟨#[]⟩)).setCell ⟨w.heap.size, 2, none⟩ (.int .i64 0)).setCell ⟨w.heap.size, 3, none⟩ (.int .i64 0)) [(w.heap.size, 27, (#[.int .u8 0, .string ⟨#[]⟩, .int .i64 0, .int .i64 0] : Array Value)), (W1.heap.size, 27, (#[.int .u8 (k : Int), .string (⟨#[]⟩ : ByteArray), .int .i64 0, .int .i64 0] : Array Value)), (w.heap.size + 1, 83, (#[.slice A n c, .int .i64 (p0 : Int), .bool false] : Array Value))] := ((((s0.set1 (by omega) (by intro x hx; simp only [List.mem_cons, List.not_mem_nil, or_false] at hx; rcases hx with h | h <;> (rw [h]; dsimp only; omega)) 0 (.int .u8 0)).set1 (by omega) (by intro x hx; simp only [List.mem_cons, List.not_mem_nil, or_false] at hx; rcases hx with h | h <;> (rw [h]; dsimp only; omega)) 1 (.string ⟨#[]⟩)).set1 (by omega) (by intro x hx; simp only [List.mem_cons, List.not_mem_nil, or_false] at hx; rcases hx with h | h <;> (rw [h]; dsimp only; omega)) 2 (.int .i64 0)).set1 (by omega) (by intro x hx; simp only [List.mem_cons, List.not_mem_nil, or_false] at hx; rcases hx with h | h <;> (rw [h]; dsimp only; omega)) 3 (.int .i64 0))
        obtain ⟨W9, hW⟩ : ∃ W, ((((W2.setCell ⟨w.heap.size, 0, none⟩ (.int .u8 0)).setCell ⟨w.heap.size, 1, none⟩ (.string ⟨#[]⟩)).setCell ⟨w.heap.size, 2, none⟩ (.int .i64 0)).setCell ⟨w.heap.size, 3, none⟩ (.int .i64 0)) = W := ⟨_, rfl⟩
        rw [hW] at s1 ⊢
        have SF := Lib.hid s1
        clear hW s0 s1
        have hfin := SF.out.at_ (List.mem_cons_self ..)
        have f0 := hfin.cell 0
        have f1 := hfin.cell 1
        have f2 := hfin.cell 2
        have f3 := hfin.cell 3
        clear hfin
        refine bodyPost_ret (v := .tuple #[.agg #[.int .u8 0, .string ⟨#[]⟩, .int .i64 0, .int .i64 0], .int .i64 (a : Int), .int .i64 80]) ?_ rfl ?_
        · simp [results, Try.results33, go_sem, f0, f1, f2, f3]
        · unfold NextP
          first | rw [HN.out] | rw [← hl, HN.out]
          exact ⟨rfl, SF.out.1⟩
end Go.Proofs.Ytbcdacfmhjgfiaa
