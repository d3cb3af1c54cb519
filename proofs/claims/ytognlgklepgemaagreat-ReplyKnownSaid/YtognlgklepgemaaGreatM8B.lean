/- Layer 8's statement ReplyReads. Made by tools/gen/law8r.py. -/
import Derived.Test.YtognlgklepgemaaGreatRpSt
import Derived.Test.YtognlgklepgemaaGreatRefRpC
import Derived.Deep.DeepCutAuto
import Derived.Test.YtognlgklepgemaaGreatLaw8F
import Derived.Test.YtognlgklepgemaaGreatM8P
import Derived.Test.YtognlgklepgemaaGreatRpSp
namespace Go.Proofs.YtognlgklepgemaaGreat
open Go.ChangeShapes Go.WideShapes Go.ChangeAt Go.RowKit

def PsR (w : World) (b : List Nat) (e : Ending) (w' : World) : Prop :=
  ∃ A c G d, e = .returned (.tuple #[((Rp.psx b).at_ A c G d).val, .int .i64 (Rp.pse b)]) ∧ w'.ownsRow w.heap.size 93 7 (.slice A (Rp.psx b).n c) (Rp.psx b).n (rcells (Rp.psr b)) ∧ w'.ownsRow w.heap.size 90 3 (.slice G (Rp.psx b).m d) (Rp.psx b).m (pncells (Rp.psg b)) ∧ Below w.heap.size w w'
/-- A reply, taken as far as its parts of j. -/
def At8 (W1 w : World) (n c : Nat) (A : Option Addr) (b : List Nat) (gr gp base k j : Nat) (σ : Rp.Sg) : Prop :=
  ∃ a' g Q c1 G d, σ = ((Rp.pparts k).take j).foldl Rp.Sg.rstep (Rp.s0 b) ∧ a' ≤ n ∧ σ.s = (b.drop a', g) ∧ Held W1 w [(gr, 117, #[.slice A n c, .int .i64 (a' : Int), .bool g]), (gp, 40, (σ.x.at_ Q c1 G d).cells)] ∧ w.ownsRow base 93 7 (.slice Q σ.x.n c1) σ.x.n (rcells σ.rows) ∧ w.ownsRow base 90 3 (.slice G σ.x.m d) σ.x.m (pncells σ.gone) ∧ (8 ∉ (Rp.pparts k).take j → Q = none ∧ σ.x.n = 0 ∧ c1 = 0) ∧ (9 ∉ (Rp.pparts k).take j → G = none ∧ σ.x.m = 0 ∧ d = 0)
/-- All blocks of w but g1 and g2 stand in W. -/
def Keep2 (w W : World) (g1 g2 : Nat) : Prop := w.heap.size ≤ W.heap.size ∧ ∀ k, k < w.heap.size → k ≠ g1 → k ≠ g2 → W.heap[k]? = w.heap[k]?
theorem Keep2.refl (w : World) (g1 g2 : Nat) : Keep2 w w g1 g2 := ⟨Nat.le_refl _, fun _ _ _ _ => rfl⟩
theorem Keep2.alloc {w W : World} {g1 g2 : Nat} (h : Keep2 w W g1 g2) (o : Obj) : Keep2 w (W.alloc o) g1 g2 := by
  have b := (Below.refl W.heap.size W).alloc (Nat.le_refl _) o
  exact ⟨Nat.le_trans h.1 b.size, fun k hk h1 h2 => (b.block k (by have := h.1; omega)).trans (h.2 k hk h1 h2)⟩
theorem Keep2.set {w W : World} {g1 g2 g : Nat} (h : Keep2 w W g1 g2) (hg : g = g1 ∨ g = g2) (i : Nat) (u : Value) : Keep2 w (W.setCell ⟨g, i, none⟩ u) g1 g2 :=
  ⟨by rw [World.size_setCell]; exact h.1, fun k hk h1 h2 => (Below.heap_setCell W ⟨g, i, none⟩ u k (by rintro rfl; rcases hg with e | e <;> omega)).trans (h.2 k hk h1 h2)⟩
theorem own_keep2 {w W : World} {g1 g2 base e s n : Nat} {v : Value} {xs : List Value} (h : w.ownsRow base e s v n xs) (hk : Keep2 w W g1 g2) (hn : ∀ k, v.ownBlock = some k → k ≠ g1 ∧ k ≠ g2) : W.ownsRow base e s v n xs := by
  refine ⟨h.1, ?_⟩
  rcases h.2 with h0 | ⟨k, cap, cur, rfl, hb, hh, r⟩
  · exact .inl h0
  · exact .inr ⟨k, cap, cur, rfl, hb, (hk.2 k (Blk.lt (t := e) (cs := cur) hh) (hn k rfl).1 (hn k rfl).2).trans hh, r⟩
theorem own8 {wr X w5 : World} {base e s n n' c c' p q : Nat} {A A' : Option Addr} {xs xs' : List Value} (hX : wr.heap.size ≤ X.heap.size) (hb : base ≤ wr.heap.size) (D : Below wr.heap.size wr w5)
    (h1 : p = q → w5.ownsRow (X.heap.size + 4) e s (.slice A' n' c') n' xs') (h2 : p ≠ q → A' = A ∧ c' = c) (h3 : p ≠ q → n' = n ∧ xs' = xs) (h4 : wr.ownsRow base e s (.slice A n c) n xs) :
    w5.ownsRow base e s (.slice A' n' c') n' xs' ∧ ∀ k, (Value.slice A' n' c').ownBlock = some k → k < wr.heap.size ∨ (X.heap.size ≤ k ∧ k < w5.heap.size) := by
  by_cases h : p = q
  · have o := h1 h
    exact ⟨own_lower o (by omega), fun k hk => .inr ⟨by have := (o.lt k hk).1; omega, (o.lt k hk).2⟩⟩
  · obtain ⟨rfl, rfl⟩ := h2 h
    obtain ⟨rfl, rfl⟩ := h3 h
    exact ⟨own_below h4 D, fun k hk => .inl (h4.lt k hk).2⟩
theorem Rp.Sg.rstep_rows (σ : Rp.Sg) (p : Nat) (h : p ≠ 8) : (σ.rstep p).x.n = σ.x.n ∧ rcells (σ.rstep p).rows = rcells σ.rows := by
  unfold Rp.Sg.rstep
  rw [if_neg h]
  repeat' split
  all_goals first | exact ⟨rfl, rfl⟩ | exact ⟨(Rp.V.num_nm _ _ _).1, rfl⟩
theorem Rp.Sg.rstep_gone (σ : Rp.Sg) (p : Nat) (h : p ≠ 9) : (σ.rstep p).x.m = σ.x.m ∧ pncells (σ.rstep p).gone = pncells σ.gone := by
  unfold Rp.Sg.rstep
  rw [if_neg h]
  repeat' split
  all_goals first | exact ⟨rfl, rfl⟩ | exact ⟨(Rp.V.num_nm _ _ _).2.1, rfl⟩
theorem ne8 {g : Nat} {b : Nat × TypeId × Array Value} (hab : g ≠ b.1) : ∀ x ∈ [b], x.1 ≠ g := by
  intro x hx
  obtain rfl := List.mem_singleton.1 hx
  exact fun e => hab e.symm
theorem Held.swap8 {w W : World} {a b : Nat × TypeId × Array Value} (h : Held w W [a, b]) : Held w W [b, a] := h.sub8 (by intro x hx; simp only [List.mem_cons, List.not_mem_nil, or_false] at hx ⊢; exact hx.symm)
theorem pparts_le (k : Nat) : (Rp.pparts k).length ≤ 4 := by
  unfold Rp.pparts
  repeat' split
  all_goals decide
theorem pparts_new (k j : Nat) (hj : j < (Rp.pparts k).length) : (Rp.pparts k).getD j 0 ∉ (Rp.pparts k).take j := by
  unfold Rp.pparts at hj ⊢
  repeat' split
  all_goals simp_all
  all_goals (rcases (by omega : j = 0 ∨ j = 1 ∨ j = 2 ∨ j = 3) with rfl | rfl | rfl | rfl <;> simp_all)
theorem psr_bad {w w' : World} {b : List Nat} {er : Int} (h : Rp.pse b = er) (h0 : er ≠ 0) (hb : Below w.heap.size w w') : PsR w b (.returned (.tuple #[.agg #[.int .u8 0, .int .u32 0, .int .u16 0, .bool false, .int .u64 0, .int .u64 0, .int .u64 0, .int .u64 0, .int .u64 0, .int .u64 0, .slice none 0 0, .slice none 0 0], .int .i64 er])) w' := by
  have e1 : Rp.psx b = Rp.only 0 0 := if_neg (by rw [h]; exact h0)
  have e2 : Rp.psr b = [] := if_neg (by rw [h]; exact h0)
  have e3 : Rp.psg b = [] := if_neg (by rw [h]; exact h0)
  unfold PsR
  rw [e1, e2, e3, h]
  exact ⟨none, 0, none, 0, rfl, own_nil _ _ _ _, own_nil _ _ _ _, hb⟩
theorem psr_good {w w' : World} {b : List Nat} {A : Option Addr} {c : Nat} {G : Option Addr} {d : Nat} {v : Value} (h : Rp.pse b = 0) (hv : ((Rp.fin b).x.at_ A c G d).val = v) (h1 : w'.ownsRow w.heap.size 93 7 (.slice A (Rp.fin b).x.n c) (Rp.fin b).x.n (rcells (Rp.fin b).rows)) (h2 : w'.ownsRow w.heap.size 90 3 (.slice G (Rp.fin b).x.m d) (Rp.fin b).x.m (pncells (Rp.fin b).gone)) (hb : Below w.heap.size w w') : PsR w b (.returned (.tuple #[v, .int .i64 0])) w' := by
  have e1 : Rp.psx b = (Rp.fin b).x := if_pos h
  have e2 : Rp.psr b = (Rp.fin b).rows := if_pos h
  have e3 : Rp.psg b = (Rp.fin b).gone := if_pos h
  unfold PsR
  rw [e1, e2, e3, h]
  exact ⟨A, c, G, d, by rw [hv], h1, h2, hb⟩
theorem refDone8_any (n c a : Nat) (A : Option Addr) (f : Bool) (w : World) (ha : a ≤ n) :
    Calls Tryz.prog 66 #[.agg #[.slice A n c, .int .i64 (a : Int), .bool f]] w fun e w' => e = .returned (.int .i64 (doneOf f (n - a))) ∧ Below w.heap.size w w' := by
  rcases Bool.eq_false_or_eq_true f with rfl | rfl
  · go_enter Tryz.func66, Tryz.ntmps66
    go_wp2_with fail
    go_ret
    exact ⟨rfl, (Below.refl _ _).alloc (Nat.le_refl _) _⟩
  · by_cases h : a < n
    · have HD := Lib.hid (show doneOf false (n - a) = 21 from by unfold doneOf; rw [if_neg (by decide), if_pos (by omega)])
      go_enter Tryz.func66, Tryz.ntmps66
      go_wp2_with fail
      go_ret
      exact ⟨by rw [HD.out]; rfl, (Below.refl _ _).alloc (Nat.le_refl _) _⟩
    · have HD := Lib.hid (show doneOf false (n - a) = 0 from by unfold doneOf; rw [if_neg (by decide), if_neg (by omega)])
      go_enter Tryz.func66, Tryz.ntmps66
      go_wp2_with fail
      go_ret
      exact ⟨by rw [HD.out]; rfl, (Below.refl _ _).alloc (Nat.le_refl _) _⟩
/-- What take answers, written out. -/
def StepQ (w : World) (n c : Nat) (A : Option Addr) (b : List Nat) (τ : Rp.Sg) (o : Bool) (p : Nat) (Q : Option Addr) (c1 : Nat) (G : Option Addr) (d : Nat) (e : Ending) (w' : World) : Prop :=
  ∃ a' g Q' c1' G' d' odd, a' ≤ n ∧ τ.s = (b.drop a', g) ∧ τ.odd = (o || odd) ∧ e = .returned (.tuple #[.agg #[.int .u8 (τ.x.k : Int), .int .u32 (τ.x.id : Int), .int .u16 (τ.x.code : Int), .bool τ.x.last, .int .u64 (τ.x.ep : Int), .int .u64 (τ.x.fl : Int), .int .u64 (τ.x.un : Int), .int .u64 (τ.x.le : Int), .int .u64 (τ.x.st : Int), .int .u64 (τ.x.ti : Int), .slice Q' τ.x.n c1', .slice G' τ.x.m d'], .agg #[.slice A n c, .int .i64 (a' : Int), .bool g], .bool odd]) ∧ Below w.heap.size w w' ∧ (p = 8 → w'.ownsRow (w.heap.size + 4) 93 7 (.slice Q' τ.x.n c1') τ.x.n (rcells τ.rows)) ∧ (p ≠ 8 → Q' = Q ∧ c1' = c1) ∧ (p = 9 → w'.ownsRow (w.heap.size + 4) 90 3 (.slice G' τ.x.m d') τ.x.m (pncells τ.gone)) ∧ (p ≠ 9 → G' = G ∧ d' = d)
set_option maxRecDepth 100000 in
set_option maxHeartbeats 40000000 in
theorem refParse8_go (n c B y : Nat) (A : Option Addr) (b : List Nat) (w : World) (hb : Bytes w B A n b) (hB : B ≤ w.heap.size) (hn : n ≤ 1000000) (hnc : n ≤ c) (h0 : 0 < n) (hy : b.getD 0 0 = y) (h1 : 1 ≤ y) (h7 : y ≤ 7) (htag : Rp.tag b = false) : Calls Tryz.prog 29 #[.slice A n c] w (PsR w b) := by
  obtain ⟨W1, hW1⟩ : ∃ W, w.alloc (.cells #[.int .u8 0, .int .u32 0, .int .u16 0, .bool false, .int .u64 0, .int .u64 0, .int .u64 0, .int .u64 0, .int .u64 0, .int .u64 0, .slice none 0 0, .slice none 0 0] 40) = W := ⟨_, rfl⟩
  have B1 : Below w.heap.size w W1 := by
    rw [← hW1]
    exact (Below.refl _ _).alloc (Nat.le_refl _) _
  have K1 : Blk W1 w.heap.size 40 #[.int .u8 0, .int .u32 0, .int .u16 0, .bool false, .int .u64 0, .int .u64 0, .int .u64 0, .int .u64 0, .int .u64 0, .int .u64 0, .slice none 0 0, .slice none 0 0] := by
    rw [← hW1]
    exact Blk.new w _ _
  have hby := hb.below B1 hB
  have hBz := Nat.le_trans hB B1.size
  have HBY : Hid (∀ W, Below W1.heap.size W1 W → Bytes W B A n b ∧ B ≤ W.heap.size) := Lib.hid fun W hW => ⟨hby.below hW hBz, Nat.le_trans hBz hW.size⟩
  have HLT := Lib.hid hb.2.1
  have HLN := Lib.hid hb.1
  obtain ⟨bb, off, rfl, hbb, hc⟩ := hb.2.2 h0
  have hc0 := hc 0 h0
  rw [Nat.add_zero, hy] at hc0
  have d0 : W1.cell? ⟨bb, off, none⟩ = some (.int .u8 (y : Int)) := (B1.cell (p := ⟨bb, off, none⟩) (by show bb < w.heap.size; omega)).trans hc0
  have i1 : (0 : Int) < n := by omega
  have i2 : ¬ (y : Int) < 1 := by omega
  have i3 : ¬ (7 : Int) < y := by omega
  have hok : Rp.St.ok (b.drop 0, false) := hb.2.1
  obtain ⟨kk, hk⟩ : ∃ v, Rp.vl (b.drop 0, false) 1 = v := ⟨_, rfl⟩
  have lk : kk < 256 := hk ▸ Rp.vl_lt hok 1
  have ck : (kk : Int) % 256 = kk := Int.emod_eq_of_lt (by omega) (by omega)
  obtain ⟨s1, hs1⟩ : ∃ s, Rp.nx (b.drop 0, false) 1 = s := ⟨_, rfl⟩
  have o1 : Rp.St.ok s1 := hs1 ▸ Rp.nx_ok hok 1
  obtain ⟨id, hid⟩ : ∃ v, Rp.vl s1 4 = v := ⟨_, rfl⟩
  have lid : id < 256 ^ 4 := hid ▸ Rp.vl_lt o1 4
  have cid : (id : Int) % 4294967296 = id := Int.emod_eq_of_lt (by omega) (by omega)
  obtain ⟨s2, hs2⟩ : ∃ s, Rp.nx s1 4 = s := ⟨_, rfl⟩
  have hs0 : Rp.s0 b = ⟨⟨kk, id, 0, false, 0, 0, 0, 0, 0, 0, none, 0, 0, none, 0, 0⟩, [], [], s2, false⟩ := by
    have hk' : Rp.vl (b, false) 1 = kk := hk
    have hs1' : Rp.nx (b, false) 1 = s1 := hs1
    unfold Rp.s0
    rw [hs1', hk', hid, hs2]
  have HK := Lib.hid (And.intro hk (And.intro hs1 (And.intro hid (And.intro hs2 hs0))))
  have HB1 := Lib.hid (And.intro B1 K1)
  have HTG := Lib.hid htag
  clear hb hB h0 hc hc0 hy hbb B1 K1 hby hBz htag hok o1 lid hk hs1 hid hs2 hs0 h1 h7
  go_enter Tryz.func29, Tryz.ntmps29
  go_wp2_with fail
  clear hW1 d0 i1 i2 i3
  refine (rt_take (c := c) (a := 0) (f := false) 1 (HBY.out W1 (Below.refl _ _)).1 (HBY.out W1 (Below.refl _ _)).2 hn (Nat.zero_le _) (by omega)).mono ?_
  rw [HK.out.1, HK.out.2.1]
  rintro e w2 ⟨a1, g1, ha1, rfl, rfl, b2⟩
  have S2 := Lib.hid (((Held.start W1).step b2).new #[.slice (some ⟨bb, off, none⟩) n c, .int .i64 (a1 : Int), .bool g1] 117)
  have hz12 := b2.size
  clear b2
  go_wp2_with fail
  refine (rt_take (c := c) 4 (HBY.out _ S2.out.1).1 (HBY.out _ S2.out.1).2 hn ha1 (by omega)).mono ?_
  rw [HK.out.2.2.1, HK.out.2.2.2.1]
  rintro e w3 ⟨a2, g2, ha2, rfl, rfl, b3⟩
  have S3 := Lib.hid (S2.out.step b3)
  have hz23 : w2.heap.size < w3.heap.size := S3.out.top.lt
  have p0 := S3.out.top.cell 0
  have p1 := S3.out.top.cell 1
  have p2 := S3.out.top.cell 2
  have pf0 := S3.out.top.frozen 0
  have pf1 := S3.out.top.frozen 1
  have pf2 := S3.out.top.frozen 2
  clear b3
  go_wp2_with fail
  clear p0 p1 p2 pf0 pf1 pf2
  have S4 := (S3.out.three8 hz12 (fun x hx => by cases hx) (.slice (some ⟨bb, off, none⟩) n c) (.int .i64 (a2 : Int)) (.bool g2)).new #[.int .u8 (kk : Int), .int .u32 (id : Int), .int .u16 0, .bool false, .int .u64 0, .int .u64 0, .int .u64 0, .int .u64 0, .int .u64 0, .int .u64 0, .slice none 0 0, .slice none 0 0] 40
  simp only [World.size_setCell] at S4
  obtain ⟨W4, hW4⟩ : ∃ W, ((((w3.setCell ⟨w2.heap.size, 0, none⟩ (.slice (some ⟨bb, off, none⟩) n c)).setCell ⟨w2.heap.size, 1, none⟩ (.int .i64 (a2 : Int))).setCell ⟨w2.heap.size, 2, none⟩ (.bool g2)).alloc (.cells #[.int .u8 (kk : Int), .int .u32 (id : Int), .int .u16 0, .bool false, .int .u64 0, .int .u64 0, .int .u64 0, .int .u64 0, .int .u64 0, .int .u64 0, .slice none 0 0, .slice none 0 0] 40)) = W := ⟨_, rfl⟩
  have hsz : W4.heap.size = w3.heap.size + 1 := by rw [← hW4]; simp
  rw [hW4] at S4 ⊢
  clear hW4
  have H4 := Lib.hid S4
  clear S4 S3 S2
  obtain ⟨P, hP⟩ : ∃ P, Rp.parts kk = P := ⟨_, rfl⟩
  have CPa : Hid (Calls Tryz.prog 25 #[.int .u8 (kk : Int)] W4 fun e w' => e = .returned (.string (textOf P)) ∧ Below W4.heap.size W4 w') := Lib.hid (by
    rw [← hP]
    exact refParts8_any kk W4)
  have hPl : P.length = (Rp.pparts kk).length := by rw [← hP, Rp.parts_map, List.length_map]
  obtain ⟨m, hm⟩ : ∃ m, P.length = m := ⟨_, rfl⟩
  have hTs : (textOf P).size = m := by rw [← hm]; simp [textOf, ByteArray.size]
  have hm4 : m ≤ 4 := by rw [← hm, hPl]; exact pparts_le kk
  have HP := Lib.hid (And.intro hP (And.intro hm (hPl.symm.trans hm)))
  clear hP hPl hm
  refine CPa.out.mono ?_
  rintro e w4 ⟨rfl, b4⟩
  have HA : At8 W1 w4 n c (some ⟨bb, off, none⟩) b w2.heap.size w3.heap.size (w3.heap.size + 1) kk 0 (Rp.s0 b) := by
    rw [HK.out.2.2.2.2]
    refine ⟨a2, g2, none, 0, none, 0, HK.out.2.2.2.2.symm, ha2, rfl, ?_, own_nil _ _ _ _, own_nil _ _ _ _, fun _ => ⟨rfl, rfl, rfl⟩, fun _ => ⟨rfl, rfl, rfl⟩⟩
    show Held W1 w4 [(w2.heap.size, 117, (#[.slice (some ⟨bb, off, none⟩) n c, .int .i64 (a2 : Int), .bool g2] : Array Value)), (w3.heap.size, 40, (#[.int .u8 (kk : Int), .int .u32 (id : Int), .int .u16 0, .bool false, .int .u64 0, .int .u64 0, .int .u64 0, .int .u64 0, .int .u64 0, .int .u64 0, .slice none 0 0, .slice none 0 0] : Array Value))]
    exact (H4.out.step b4).sub8 (by intro x hx; simp only [List.mem_cons, List.not_mem_nil, or_false] at hx ⊢; rcases hx with h | h <;> simp [h])
  have HA := Lib.hid HA
  have hodd : (Rp.s0 b).odd = false := rfl
  clear b4 CPa H4
  go_wp2_with fail
  go_loopw [9, 10] (fun o i wr => ∃ (j : Nat) (σ : Rp.Sg), j ≤ m ∧ i = .int .i64 (j : Int) ∧ o = .bool σ.odd ∧ At8 W1 wr n c (some ⟨bb, off, none⟩) b w2.heap.size w3.heap.size (w3.heap.size + 1) kk j σ) (fun _ i _ => m - (intOf i).toNat)
  case atStart => exact ⟨0, Rp.s0 b, by omega, rfl, rfl, HA.out⟩
  case round =>
    obtain ⟨j, σ, hj, rfl, rfl, hat⟩ := hrel
    have HT := Lib.hid hat
    clear hat
    by_cases hjm : j < m
    · have i1 : (0 : Int) ≤ j := by omega
      have i2 : (j : Int) < m := by omega
      obtain ⟨a5, g5, Q, c1, G, d, hσ, ha5, hss, hld, hrw, hpn, hq8, hq9⟩ := HT.out
      obtain ⟨p, hp⟩ : ∃ p, (Rp.pparts kk).getD j 0 = p := ⟨_, rfl⟩
      have hjl : j < (Rp.pparts kk).length := by rw [HP.out.2.2]; exact hjm
      have hpe : (Rp.pparts kk)[j]'hjl = p := by rw [← hp, List.getD_eq_getElem?_getD, List.getElem?_eq_getElem hjl]; rfl
      have hpl : p < 10 := by rw [← hpe]; exact Rp.pparts_lt kk _ (List.getElem_mem _)
      have hpn0 : p ∉ (Rp.pparts kk).take j := by rw [← hp]; exact pparts_new kk j hjl
      obtain ⟨ch, hch⟩ : ∃ v, Rp.lett p = v := ⟨_, rfl⟩
      have hPj : P.getD j 0 = ch := by
        rw [← HP.out.1, Rp.parts_map, List.getD_eq_getElem?_getD, List.getElem?_map, List.getElem?_eq_getElem hjl, hpe, ← hch]
        rfl
      have hcx : ∀ h : j < (textOf P).size, ((textOf P)[j]'h).toNat = ch := fun h => (textOf_at (fun y hy => letter_lt (Rp.parts_letter kk y (by rw [HP.out.1]; exact hy))) h).trans hPj
      obtain ⟨τ, hτ⟩ : ∃ t, σ.rstep p = t := ⟨_, rfl⟩
      have TK : Hid (∀ W, Below wr.heap.size wr W → Calls Tryz.prog 65 #[.agg #[.int .u8 (σ.x.k : Int), .int .u32 (σ.x.id : Int), .int .u16 (σ.x.code : Int), .bool σ.x.last, .int .u64 (σ.x.ep : Int), .int .u64 (σ.x.fl : Int), .int .u64 (σ.x.un : Int), .int .u64 (σ.x.le : Int), .int .u64 (σ.x.st : Int), .int .u64 (σ.x.ti : Int), .slice Q σ.x.n c1, .slice G σ.x.m d], .int .u8 (ch : Int), .agg #[.slice (some ⟨bb, off, none⟩) n c, .int .i64 (a5 : Int), .bool g5]] W (StepQ W n c (some ⟨bb, off, none⟩) b τ σ.odd p Q c1 G d)) := Lib.hid fun W hW => by
        have hBy := HBY.out W (below_next hld.1 hW)
        have h := refTakeStep_any σ p hpl n c a5 B (some ⟨bb, off, none⟩) b g5 Q c1 G d W hBy.1 hBy.2 hn ha5 hnc hss (fun e => hq8 (by rw [← e]; exact hpn0)) (fun e => hq9 (by rw [← e]; exact hpn0))
        rw [hch] at h
        rw [← hτ]
        exact h
      have PC : Hid (∀ W, Below wr.heap.size wr W → (fun W => (W.cell? ⟨w2.heap.size, 0, none⟩ = some (.slice (some ⟨bb, off, none⟩) n c) ∧ W.cell? ⟨w2.heap.size, 1, none⟩ = some (.int .i64 (a5 : Int)) ∧ W.cell? ⟨w2.heap.size, 2, none⟩ = some (.bool g5)) ∧ W.cell? ⟨w3.heap.size, 0, none⟩ = some (.int .u8 (σ.x.k : Int)) ∧ W.cell? ⟨w3.heap.size, 1, none⟩ = some (.int .u32 (σ.x.id : Int)) ∧ W.cell? ⟨w3.heap.size, 2, none⟩ = some (.int .u16 (σ.x.code : Int)) ∧ W.cell? ⟨w3.heap.size, 3, none⟩ = some (.bool σ.x.last) ∧ W.cell? ⟨w3.heap.size, 4, none⟩ = some (.int .u64 (σ.x.ep : Int)) ∧ W.cell? ⟨w3.heap.size, 5, none⟩ = some (.int .u64 (σ.x.fl : Int)) ∧ W.cell? ⟨w3.heap.size, 6, none⟩ = some (.int .u64 (σ.x.un : Int)) ∧ W.cell? ⟨w3.heap.size, 7, none⟩ = some (.int .u64 (σ.x.le : Int)) ∧ W.cell? ⟨w3.heap.size, 8, none⟩ = some (.int .u64 (σ.x.st : Int)) ∧ W.cell? ⟨w3.heap.size, 9, none⟩ = some (.int .u64 (σ.x.ti : Int)) ∧ W.cell? ⟨w3.heap.size, 10, none⟩ = some (.slice Q σ.x.n c1) ∧ W.cell? ⟨w3.heap.size, 11, none⟩ = some (.slice G σ.x.m d)) W) := Lib.hid fun W hW => by
        have k1 := (hld.2 _ (List.mem_cons_self ..)).below hW (hld.2 _ (List.mem_cons_self ..)).lt
        have k2 := (hld.2 _ (List.mem_cons_of_mem _ (List.mem_cons_self ..))).below hW (hld.2 _ (List.mem_cons_of_mem _ (List.mem_cons_self ..))).lt
        exact ⟨⟨k1.cell 0, k1.cell 1, k1.cell 2⟩, k2.cell 0, k2.cell 1, k2.cell 2, k2.cell 3, k2.cell 4, k2.cell 5, k2.cell 6, k2.cell 7, k2.cell 8, k2.cell 9, k2.cell 10, k2.cell 11⟩
      have D0 : Below wr.heap.size wr wr.drew := (Below.refl _ _).drew
      have HLD := Lib.hid (And.intro hσ (And.intro ha5 (And.intro hss (And.intro hld (And.intro hrw (And.intro hpn (And.intro hq8 hq9)))))))
      have HPJ := Lib.hid (And.intro hpe (And.intro hjl hpn0))
      have HJM := Lib.hid hjm
      clear hσ hss hld hrw hpn hq8 hq9 hpe hpn0 hPj hp hch
      go_upto_region 11 with (fail)
      have HSZ8 := Lib.hid (show W1.heap.size ≤ wr.heap.size ∧ w3.heap.size + 1 ≤ wr.heap.size from ⟨HLD.out.2.2.2.1.1.size, by have := (HLD.out.2.2.2.1.2 _ (List.mem_cons_of_mem _ (List.mem_cons_self ..))).lt; omega⟩)
      have HST8 := Lib.hid hτ
      go_cut [11, 12, 13] (fun p11 p12 ov wx => ∃ (g1 g2 a6 : Nat) (g6 : Bool) (Q6 : Option Addr) (c6 : Nat) (G6 : Option Addr) (d6 : Nat) (od : Bool), p11 = .pointer (some ⟨g1, 0, none⟩) ∧ p12 = .pointer (some ⟨g2, 0, none⟩) ∧ ov = .bool od ∧ a6 ≤ n ∧ τ.s = (b.drop a6, g6) ∧ τ.odd = (σ.odd || od) ∧ Held wr wx [(g1, 40, #[.int .u8 (τ.x.k : Int), .int .u32 (τ.x.id : Int), .int .u16 (τ.x.code : Int), .bool τ.x.last, .int .u64 (τ.x.ep : Int), .int .u64 (τ.x.fl : Int), .int .u64 (τ.x.un : Int), .int .u64 (τ.x.le : Int), .int .u64 (τ.x.st : Int), .int .u64 (τ.x.ti : Int), .slice Q6 τ.x.n c6, .slice G6 τ.x.m d6]), (g2, 117, #[.slice (some ⟨bb, off, none⟩) n c, .int .i64 (a6 : Int), .bool g6])] ∧ (wr.heap.size ≤ g1 ∧ wr.heap.size ≤ g2) ∧ wx.ownsRow (w3.heap.size + 1) 93 7 (.slice Q6 τ.x.n c6) τ.x.n (rcells τ.rows) ∧ wx.ownsRow (w3.heap.size + 1) 90 3 (.slice G6 τ.x.m d6) τ.x.m (pncells τ.gone) ∧ (p ≠ 8 → Q6 = Q ∧ c6 = c1) ∧ (p ≠ 9 → G6 = G ∧ d6 = d))
      case first =>
        focus
          have DV : Below wr.heap.size wr wr := Below.refl _ _
          have H := Lib.hid (Held.start wr)
          refine wp_region_held_drew (S := (fun W => (W.cell? ⟨w2.heap.size, 0, none⟩ = some (.slice (some ⟨bb, off, none⟩) n c) ∧ W.cell? ⟨w2.heap.size, 1, none⟩ = some (.int .i64 (a5 : Int)) ∧ W.cell? ⟨w2.heap.size, 2, none⟩ = some (.bool g5)) ∧ W.cell? ⟨w3.heap.size, 0, none⟩ = some (.int .u8 (σ.x.k : Int)) ∧ W.cell? ⟨w3.heap.size, 1, none⟩ = some (.int .u32 (σ.x.id : Int)) ∧ W.cell? ⟨w3.heap.size, 2, none⟩ = some (.int .u16 (σ.x.code : Int)) ∧ W.cell? ⟨w3.heap.size, 3, none⟩ = some (.bool σ.x.last) ∧ W.cell? ⟨w3.heap.size, 4, none⟩ = some (.int .u64 (σ.x.ep : Int)) ∧ W.cell? ⟨w3.heap.size, 5, none⟩ = some (.int .u64 (σ.x.fl : Int)) ∧ W.cell? ⟨w3.heap.size, 6, none⟩ = some (.int .u64 (σ.x.un : Int)) ∧ W.cell? ⟨w3.heap.size, 7, none⟩ = some (.int .u64 (σ.x.le : Int)) ∧ W.cell? ⟨w3.heap.size, 8, none⟩ = some (.int .u64 (σ.x.st : Int)) ∧ W.cell? ⟨w3.heap.size, 9, none⟩ = some (.int .u64 (σ.x.ti : Int)) ∧ W.cell? ⟨w3.heap.size, 10, none⟩ = some (.slice Q σ.x.n c1) ∧ W.cell? ⟨w3.heap.size, 11, none⟩ = some (.slice G σ.x.m d))) (by kernel_rfl) (PC.out _ D0) (fun hHeld => ?_)
          refine wpAnyH_take (i := 0) (oi := { dst := some 57, op := Op.load 40 (Operand.tmp 7), type := 40, pos := "ref.go:231", after := #[], guard := none }) (v := ?_) rfl (by kernel_rfl) (by kernel_rfl) (by kernel_rfl) (fun _ _ _ h => h) (Or.inl ⟨by rfl, ?_⟩) (by assumption) ?_
          rotate_left
          · intro W hSW; (try dsimp only at hSW); go_simp; try with_reducible rfl
          try simp only [Act.put, List.setIfInBounds_toArray, List.set_cons_zero, List.set_cons_succ]
          refine wpAnyH_take (i := 1) (oi := { dst := some 58, op := Op.move (Operand.tmp 8), type := 9, pos := "ref.go:231", after := #[], guard := none }) (v := ?_) rfl (by kernel_rfl) (by kernel_rfl) (by kernel_rfl) (fun _ _ _ h => h) (Or.inl ⟨by rfl, ?_⟩) (by assumption) ?_
          rotate_left
          · intro W hSW; (try dsimp only at hSW); go_simp; try with_reducible rfl
          try simp only [Act.put, List.setIfInBounds_toArray, List.set_cons_zero, List.set_cons_succ]
          refine wpAnyH_take (i := 2) (oi := { dst := some 59, op := Op.move (Operand.tmp 10), type := 3, pos := "ref.go:231", after := #[], guard := none }) (v := ?_) rfl (by kernel_rfl) (by kernel_rfl) (by kernel_rfl) (fun _ _ _ h => h) (Or.inl ⟨by rfl, ?_⟩) (by assumption) ?_
          rotate_left
          · intro W hSW; (try dsimp only at hSW); go_simp; try with_reducible rfl
          try simp only [Act.put, List.setIfInBounds_toArray, List.set_cons_zero, List.set_cons_succ]
          refine wpAnyH_take (i := 3) (oi := { dst := some 60, op := Op.index 9 (Operand.tmp 58) (Operand.tmp 59), type := 5, pos := "ref.go:231", after := #[{ on := 1, ground := Ground.data }, { on := 2, ground := Ground.data }], guard := none }) (v := ?_) rfl (by kernel_rfl) (by kernel_rfl) (by kernel_rfl) (fun _ _ _ h => h) (Or.inl ⟨by rfl, ?_⟩) (by assumption) ?_
          rotate_left
          · intro W hSW; (try dsimp only at hSW); go_simp; try with_reducible rfl
          try simp only [Act.put, List.setIfInBounds_toArray, List.set_cons_zero, List.set_cons_succ]
          refine wpAnyH_take (i := 4) (oi := { dst := some 61, op := Op.load 117 (Operand.tmp 5), type := 117, pos := "ref.go:231", after := #[], guard := none }) (v := ?_) rfl (by kernel_rfl) (by kernel_rfl) (by kernel_rfl) (fun _ _ _ h => h) (Or.inl ⟨by rfl, ?_⟩) (by assumption) ?_
          rotate_left
          · intro W hSW; (try dsimp only at hSW); go_simp; try with_reducible rfl
          try simp only [Act.put, List.setIfInBounds_toArray, List.set_cons_zero, List.set_cons_succ]
          refine wpAnyH_ready (rs := [5, 10, 11]) (by kernel_rfl) (by simp) ?_
          refine AllReadyH.cons (o := { dst := some 62, op := Op.call { callee := Callee.value (Operand.func 65), args := #[Operand.tmp 57, Operand.tmp 60, Operand.tmp 61], argTypes := #[40, 5, 117] }, type := 120, pos := "ref.go:231", after := #[{ on := 0, ground := Ground.data }, { on := 3, ground := Ground.data }, { on := 4, ground := Ground.data }], guard := none }) rfl (fun K hK => ?_) (AllReadyH.cons (o := { dst := some 11, op := Op.alloc 40, type := 0, pos := "ref.go:231", after := #[], guard := none }) rfl (fun K hK => ?_) (AllReadyH.cons (o := { dst := some 12, op := Op.alloc 117, type := 0, pos := "ref.go:231", after := #[], guard := none }) rfl (fun K hK => ?_) AllReadyH.nil))
          · go_simp
            go_at_call 65
            refine (TK.out _ (by (repeat' first | (with_reducible exact DV) | (with_reducible exact Below.refl _ _) | (with_reducible refine Below.drew ?_) | (with_reducible refine Below.setCell ?_ ?_ _) | (with_reducible refine Below.alloc ?_ ?_ _) | exact DV.size | exact HZ.out.1 | exact HZ.out.2.1 | exact Nat.le_refl _ | (simp; done) | (have := DV.size; simp; omega) | (simp; omega)))).mono ?_
            rintro e w5 ⟨a6, g6, Q6, c6, G6, d6, od, ha6, hs6, ho6, rfl, b5, hr6, hq6, hn6, hg6⟩
            have hX8 : wr.drew.heap.size = wr.heap.size + 0 := by show wr.heap.size = _; rfl
            have b5 : Below wr.drew.heap.size wr.drew w5 := b5
            have H := Lib.hid (H.out.step (below_next ((Below.refl wr.heap.size wr).drew) b5))
            have DV := H.out.1
            have OR := Lib.hid (own8 (X := wr.drew) (p := p) (q := 8) (by omega) HSZ8.out.2 DV hr6 hq6 (fun h => by rw [← HST8.out]; exact Rp.Sg.rstep_rows σ p h) HLD.out.2.2.2.2.1)
            have OP := Lib.hid (own8 (X := wr.drew) (p := p) (q := 9) (by omega) HSZ8.out.2 DV hn6 hg6 (fun h => by rw [← HST8.out]; exact Rp.Sg.rstep_gone σ p h) HLD.out.2.2.2.2.2.1)
            have HS5 := Lib.hid (And.intro hX8 b5.size)
            have HFF := Lib.hid (And.intro ha6 (And.intro hs6 (And.intro ho6 (And.intro hq6 hg6))))
            have HV := H
            clear b5 hr6 hn6 hX8 ha6 hs6 ho6 hq6 hg6
            go_wp2_with fail
            refine hK.out _ _ ?_ (fun hHeld => ?_)
            · refine PC.out _ ?_; (repeat' first | (with_reducible exact DV) | (with_reducible exact Below.refl _ _) | (with_reducible refine Below.drew ?_) | (with_reducible refine Below.setCell ?_ ?_ _) | (with_reducible refine Below.alloc ?_ ?_ _) | exact DV.size | exact HZ.out.1 | exact HZ.out.2.1 | exact Nat.le_refl _ | (simp; done) | (have := DV.size; simp; omega) | (simp; omega))
            clear hK K
            try simp only [Act.put, List.setIfInBounds_toArray, List.set_cons_zero, List.set_cons_succ]
            refine wpAnyH_take (i := 6) (oi := { dst := some 56, op := Op.move (Operand.tmp 62), type := 120, pos := "ref.go:231", after := #[{ on := 5, ground := Ground.data }], guard := none }) (v := ?_) rfl (by kernel_rfl) (by kernel_rfl) (by kernel_rfl) (fun _ _ _ h => h) (Or.inl ⟨by rfl, ?_⟩) (by assumption) ?_
            rotate_left
            · intro W hSW; (try dsimp only at hSW); go_simp; try with_reducible rfl
            try simp only [Act.put, List.setIfInBounds_toArray, List.set_cons_zero, List.set_cons_succ]
            refine wpAnyH_take (i := 7) (oi := { dst := some 63, op := Op.extract (Operand.tmp 56) 0, type := 40, pos := "ref.go:231", after := #[{ on := 6, ground := Ground.data }], guard := none }) (v := ?_) rfl (by kernel_rfl) (by kernel_rfl) (by kernel_rfl) (fun _ _ _ h => h) (Or.inl ⟨by rfl, ?_⟩) (by assumption) ?_
            rotate_left
            · intro W hSW; (try dsimp only at hSW); go_simp; try with_reducible rfl
            try simp only [Act.put, List.setIfInBounds_toArray, List.set_cons_zero, List.set_cons_succ]
            refine wpAnyH_take (i := 8) (oi := { dst := some 64, op := Op.extract (Operand.tmp 56) 1, type := 117, pos := "ref.go:231", after := #[{ on := 6, ground := Ground.data }, { on := 12, ground := Ground.gcOnly Departure.lateStores }], guard := none }) (v := ?_) rfl (by kernel_rfl) (by kernel_rfl) (by kernel_rfl) (fun _ _ _ h => h) (Or.inl ⟨by rfl, ?_⟩) (by assumption) ?_
            rotate_left
            · intro W hSW; (try dsimp only at hSW); go_simp; try with_reducible rfl
            try simp only [Act.put, List.setIfInBounds_toArray, List.set_cons_zero, List.set_cons_succ]
            refine wpAnyH_take (i := 9) (oi := { dst := some 65, op := Op.extract (Operand.tmp 56) 2, type := 4, pos := "ref.go:231", after := #[{ on := 6, ground := Ground.data }, { on := 13, ground := Ground.gcOnly Departure.lateStores }], guard := none }) (v := ?_) rfl (by kernel_rfl) (by kernel_rfl) (by kernel_rfl) (fun _ _ _ h => h) (Or.inl ⟨by rfl, ?_⟩) (by assumption) ?_
            rotate_left
            · intro W hSW; (try dsimp only at hSW); go_simp; try with_reducible rfl
            try simp only [Act.put, List.setIfInBounds_toArray, List.set_cons_zero, List.set_cons_succ]
            refine wpAnyH_ready (rs := [10, 11]) (by kernel_rfl) (by simp) ?_
            refine AllReadyH.cons (o := { dst := some 11, op := Op.alloc 40, type := 0, pos := "ref.go:231", after := #[], guard := none }) rfl (fun K hK => ?_) (AllReadyH.cons (o := { dst := some 12, op := Op.alloc 117, type := 0, pos := "ref.go:231", after := #[], guard := none }) rfl (fun K hK => ?_) AllReadyH.nil)
            · go_simp
              go_wp2_with fail
              refine hK.out _ _ ?_ (fun hHeld => ?_)
              · refine PC.out _ ?_; (repeat' first | (with_reducible exact DV) | (with_reducible exact Below.refl _ _) | (with_reducible refine Below.drew ?_) | (with_reducible refine Below.setCell ?_ ?_ _) | (with_reducible refine Below.alloc ?_ ?_ _) | exact DV.size | exact HZ.out.1 | exact HZ.out.2.1 | exact Nat.le_refl _ | (simp; done) | (have := DV.size; simp; omega) | (simp; omega))
              clear hK K
              try simp only [Act.put, List.setIfInBounds_toArray, List.set_cons_zero, List.set_cons_succ]
              have H := Lib.hid (H.out.new #[.int .u8 0, .int .u32 0, .int .u16 0, .bool false, .int .u64 0, .int .u64 0, .int .u64 0, .int .u64 0, .int .u64 0, .int .u64 0, .slice none 0 0, .slice none 0 0] 40)
              refine wpAnyH_ready (rs := [11]) (by kernel_rfl) (by simp) ?_
              refine AllReadyH.cons (o := { dst := some 12, op := Op.alloc 117, type := 0, pos := "ref.go:231", after := #[], guard := none }) rfl (fun K hK => ?_) AllReadyH.nil
              go_simp
              go_wp2_with fail
              refine hK.out _ _ ?_ (fun hHeld => ?_)
              · refine PC.out _ ?_; (repeat' first | (with_reducible exact DV) | (with_reducible exact Below.refl _ _) | (with_reducible refine Below.drew ?_) | (with_reducible refine Below.setCell ?_ ?_ _) | (with_reducible refine Below.alloc ?_ ?_ _) | exact DV.size | exact HZ.out.1 | exact HZ.out.2.1 | exact Nat.le_refl _ | (simp; done) | (have := DV.size; simp; omega) | (simp; omega))
              clear hK K
              try simp only [Act.put, List.setIfInBounds_toArray, List.set_cons_zero, List.set_cons_succ]
              have H := Lib.hid (H.out.new #[.slice none 0 0, .int .i64 0, .bool false] 117)
              rw [show (w5.alloc (.cells #[.int .u8 0, .int .u32 0, .int .u16 0, .bool false, .int .u64 0, .int .u64 0, .int .u64 0, .int .u64 0, .int .u64 0, .int .u64 0, .slice none 0 0, .slice none 0 0] 40)).heap.size = w5.heap.size + 1 by simp] at H
              refine wpAnyH_ready (rs := [12]) (by kernel_rfl) (by simp) ?_
              refine AllReadyH.cons (o := { dst := none, op := Op.store 40 (Operand.tmp 11) (Operand.tmp 63), type := 0, pos := "ref.go:231", after := #[{ on := 10, ground := Ground.data }, { on := 7, ground := Ground.data }, { on := 5, ground := Ground.chain }, { on := 0, ground := Ground.phase }, { on := 1, ground := Ground.phase }, { on := 2, ground := Ground.phase }, { on := 3, ground := Ground.phase }, { on := 4, ground := Ground.phase }, { on := 5, ground := Ground.phase }, { on := 6, ground := Ground.phase }, { on := 7, ground := Ground.phase }, { on := 8, ground := Ground.textOnly Departure.lateStores }, { on := 9, ground := Ground.textOnly Departure.lateStores }, { on := 10, ground := Ground.phase }, { on := 11, ground := Ground.phase }], guard := none }) rfl (fun K hK => ?_) AllReadyH.nil
              have HZ : Hid (wr.heap.size ≤ (w5.heap.size) ∧ wr.heap.size ≤ (w5.heap.size + 1) ∧ (w5.heap.size) ≠ (w5.heap.size + 1) ∧ (w5.heap.size + 1) ≠ (w5.heap.size)) := Lib.hid (by have s1 := HS5.out; (refine ⟨?_, ?_, ?_, ?_⟩) <;> (first | omega | (simp; done) | (simp; omega)))
              have kb := H.out.2 _ (List.mem_cons_self ..)
              have b0 := kb.cell 0
              have b1 := kb.cell 1
              have b2 := kb.cell 2
              have bf := fun o => kb.frozen o
              have ka := H.out.2 _ (List.mem_cons_of_mem _ (List.mem_cons_self ..))
              have a0 := ka.cell 0
              have a1 := ka.cell 1
              have a2 := ka.cell 2
              have a3 := ka.cell 3
              have a4 := ka.cell 4
              have a5 := ka.cell 5
              have a6 := ka.cell 6
              have a7 := ka.cell 7
              have a8 := ka.cell 8
              have a9 := ka.cell 9
              have a10 := ka.cell 10
              have a11 := ka.cell 11
              have af := fun o => ka.frozen o
              go_simp
              go_wp2_with fail
              refine hK.out _ _ ?_ (fun hHeld => ?_)
              · refine PC.out _ ?_; (repeat' first | (with_reducible exact DV) | (with_reducible exact Below.refl _ _) | (with_reducible refine Below.drew ?_) | (with_reducible refine Below.setCell ?_ ?_ _) | (with_reducible refine Below.alloc ?_ ?_ _) | exact DV.size | exact HZ.out.1 | exact HZ.out.2.1 | exact Nat.le_refl _ | (simp; done) | (have := DV.size; simp; omega) | (simp; omega))
              clear hK K
              try simp only [Act.put, List.setIfInBounds_toArray, List.set_cons_zero, List.set_cons_succ]
              clear ka kb af bf a0 a1 a2 a3 a4 a5 a6 a7 a8 a9 a10 a11 b0 b1 b2
              have H := Lib.hid ((HV.out.new #[.int .u8 (τ.x.k : Int), .int .u32 (τ.x.id : Int), .int .u16 (τ.x.code : Int), .bool τ.x.last, .int .u64 (τ.x.ep : Int), .int .u64 (τ.x.fl : Int), .int .u64 (τ.x.un : Int), .int .u64 (τ.x.le : Int), .int .u64 (τ.x.st : Int), .int .u64 (τ.x.ti : Int), .slice Q6 τ.x.n c6, .slice G6 τ.x.m d6] 40).new #[.slice none 0 0, .int .i64 0, .bool false] 117)
              rw [show (w5.alloc (.cells #[.int .u8 (τ.x.k : Int), .int .u32 (τ.x.id : Int), .int .u16 (τ.x.code : Int), .bool τ.x.last, .int .u64 (τ.x.ep : Int), .int .u64 (τ.x.fl : Int), .int .u64 (τ.x.un : Int), .int .u64 (τ.x.le : Int), .int .u64 (τ.x.st : Int), .int .u64 (τ.x.ti : Int), .slice Q6 τ.x.n c6, .slice G6 τ.x.m d6] 40)).heap.size = w5.heap.size + 1 by simp] at H
              refine wpAnyH_ready (rs := [13]) (by kernel_rfl) (by simp) ?_
              refine AllReadyH.cons (o := { dst := none, op := Op.store 117 (Operand.tmp 12) (Operand.tmp 64), type := 0, pos := "ref.go:231", after := #[{ on := 11, ground := Ground.data }, { on := 8, ground := Ground.data }, { on := 12, ground := Ground.chain }, { on := 0, ground := Ground.phase }, { on := 1, ground := Ground.phase }, { on := 2, ground := Ground.phase }, { on := 3, ground := Ground.phase }, { on := 4, ground := Ground.phase }, { on := 5, ground := Ground.phase }, { on := 6, ground := Ground.phase }, { on := 7, ground := Ground.phase }, { on := 8, ground := Ground.phase }, { on := 9, ground := Ground.textOnly Departure.lateStores }, { on := 10, ground := Ground.phase }, { on := 11, ground := Ground.phase }, { on := 12, ground := Ground.phase }], guard := none }) rfl (fun K hK => ?_) AllReadyH.nil
              have kb := H.out.2 _ (List.mem_cons_self ..)
              have b0 := kb.cell 0
              have b1 := kb.cell 1
              have b2 := kb.cell 2
              have bf := fun o => kb.frozen o
              have ka := H.out.2 _ (List.mem_cons_of_mem _ (List.mem_cons_self ..))
              have a0 := ka.cell 0
              have a1 := ka.cell 1
              have a2 := ka.cell 2
              have a3 := ka.cell 3
              have a4 := ka.cell 4
              have a5 := ka.cell 5
              have a6 := ka.cell 6
              have a7 := ka.cell 7
              have a8 := ka.cell 8
              have a9 := ka.cell 9
              have a10 := ka.cell 10
              have a11 := ka.cell 11
              have af := fun o => ka.frozen o
              go_simp
              go_wp2_with fail
              refine hK.out _ _ ?_ (fun hHeld => ?_)
              · refine PC.out _ ?_; (repeat' first | (with_reducible exact DV) | (with_reducible exact Below.refl _ _) | (with_reducible refine Below.drew ?_) | (with_reducible refine Below.setCell ?_ ?_ _) | (with_reducible refine Below.alloc ?_ ?_ _) | exact DV.size | exact HZ.out.1 | exact HZ.out.2.1 | exact Nat.le_refl _ | (simp; done) | (have := DV.size; simp; omega) | (simp; omega))
              clear hK K
              try simp only [Act.put, List.setIfInBounds_toArray, List.set_cons_zero, List.set_cons_succ]
              clear ka kb af bf a0 a1 a2 a3 a4 a5 a6 a7 a8 a9 a10 a11 b0 b1 b2
              have H := Lib.hid ((HV.out.new #[.int .u8 (τ.x.k : Int), .int .u32 (τ.x.id : Int), .int .u16 (τ.x.code : Int), .bool τ.x.last, .int .u64 (τ.x.ep : Int), .int .u64 (τ.x.fl : Int), .int .u64 (τ.x.un : Int), .int .u64 (τ.x.le : Int), .int .u64 (τ.x.st : Int), .int .u64 (τ.x.ti : Int), .slice Q6 τ.x.n c6, .slice G6 τ.x.m d6] 40).new #[.slice (some ⟨bb, off, none⟩) n c, .int .i64 (a6 : Int), .bool g6] 117)
              rw [show (w5.alloc (.cells #[.int .u8 (τ.x.k : Int), .int .u32 (τ.x.id : Int), .int .u16 (τ.x.code : Int), .bool τ.x.last, .int .u64 (τ.x.ep : Int), .int .u64 (τ.x.fl : Int), .int .u64 (τ.x.un : Int), .int .u64 (τ.x.le : Int), .int .u64 (τ.x.st : Int), .int .u64 (τ.x.ti : Int), .slice Q6 τ.x.n c6, .slice G6 τ.x.m d6] 40)).heap.size = w5.heap.size + 1 by simp] at H
              refine wpAnyH_take (i := 14) (oi := { dst := some 13, op := Op.assign (Operand.tmp 65), type := 4, pos := "ref.go:231", after := #[{ on := 9, ground := Ground.data }, { on := 13, ground := Ground.chain }, { on := 0, ground := Ground.phase }, { on := 1, ground := Ground.phase }, { on := 2, ground := Ground.phase }, { on := 3, ground := Ground.phase }, { on := 4, ground := Ground.phase }, { on := 5, ground := Ground.phase }, { on := 6, ground := Ground.phase }, { on := 7, ground := Ground.phase }, { on := 8, ground := Ground.phase }, { on := 9, ground := Ground.phase }, { on := 10, ground := Ground.phase }, { on := 11, ground := Ground.phase }, { on := 12, ground := Ground.phase }, { on := 13, ground := Ground.phase }], guard := none }) (v := ?_) rfl (by kernel_rfl) (by kernel_rfl) (by kernel_rfl) (fun _ _ _ h => h) (Or.inl ⟨by rfl, ?_⟩) (by assumption) ?_
              rotate_left
              · intro W hSW; (try dsimp only at hSW); go_simp; try with_reducible rfl
              try simp only [Act.put, List.setIfInBounds_toArray, List.set_cons_zero, List.set_cons_succ]
              refine wpAnyH_done (by kernel_rfl) ?_ _
              go_wp2_with fail
              go_meet
              exact ⟨(w5.heap.size), (w5.heap.size + 1), a6, g6, Q6, c6, G6, d6, od, rfl, rfl, rfl, HFF.out.1, HFF.out.2.1, HFF.out.2.2.1, H.out.swap8, ⟨HZ.out.1, HZ.out.2.1⟩, own_keep2 OR.out.1 (((Keep2.refl w5 (w5.heap.size) (w5.heap.size + 1)).alloc _).alloc _) (fun k hk => by have h := OR.out.2 k hk; have s1 := HS5.out; omega), own_keep2 OP.out.1 (((Keep2.refl w5 (w5.heap.size) (w5.heap.size + 1)).alloc _).alloc _) (fun k hk => by have h := OP.out.2 k hk; have s1 := HS5.out; omega), HFF.out.2.2.2.1, HFF.out.2.2.2.2⟩
            · go_simp
              go_wp2_with fail
              refine hK.out _ _ ?_ (fun hHeld => ?_)
              · refine PC.out _ ?_; (repeat' first | (with_reducible exact DV) | (with_reducible exact Below.refl _ _) | (with_reducible refine Below.drew ?_) | (with_reducible refine Below.setCell ?_ ?_ _) | (with_reducible refine Below.alloc ?_ ?_ _) | exact DV.size | exact HZ.out.1 | exact HZ.out.2.1 | exact Nat.le_refl _ | (simp; done) | (have := DV.size; simp; omega) | (simp; omega))
              clear hK K
              try simp only [Act.put, List.setIfInBounds_toArray, List.set_cons_zero, List.set_cons_succ]
              have H := Lib.hid (H.out.new #[.slice none 0 0, .int .i64 0, .bool false] 117)
              refine wpAnyH_ready (rs := [10]) (by kernel_rfl) (by simp) ?_
              refine AllReadyH.cons (o := { dst := some 11, op := Op.alloc 40, type := 0, pos := "ref.go:231", after := #[], guard := none }) rfl (fun K hK => ?_) AllReadyH.nil
              go_simp
              go_wp2_with fail
              refine hK.out _ _ ?_ (fun hHeld => ?_)
              · refine PC.out _ ?_; (repeat' first | (with_reducible exact DV) | (with_reducible exact Below.refl _ _) | (with_reducible refine Below.drew ?_) | (with_reducible refine Below.setCell ?_ ?_ _) | (with_reducible refine Below.alloc ?_ ?_ _) | exact DV.size | exact HZ.out.1 | exact HZ.out.2.1 | exact Nat.le_refl _ | (simp; done) | (have := DV.size; simp; omega) | (simp; omega))
              clear hK K
              try simp only [Act.put, List.setIfInBounds_toArray, List.set_cons_zero, List.set_cons_succ]
              have H := Lib.hid (H.out.new #[.int .u8 0, .int .u32 0, .int .u16 0, .bool false, .int .u64 0, .int .u64 0, .int .u64 0, .int .u64 0, .int .u64 0, .int .u64 0, .slice none 0 0, .slice none 0 0] 40)
              rw [show (w5.alloc (.cells #[.slice none 0 0, .int .i64 0, .bool false] 117)).heap.size = w5.heap.size + 1 by simp] at H
              refine wpAnyH_ready (rs := [12]) (by kernel_rfl) (by simp) ?_
              refine AllReadyH.cons (o := { dst := none, op := Op.store 40 (Operand.tmp 11) (Operand.tmp 63), type := 0, pos := "ref.go:231", after := #[{ on := 10, ground := Ground.data }, { on := 7, ground := Ground.data }, { on := 5, ground := Ground.chain }, { on := 0, ground := Ground.phase }, { on := 1, ground := Ground.phase }, { on := 2, ground := Ground.phase }, { on := 3, ground := Ground.phase }, { on := 4, ground := Ground.phase }, { on := 5, ground := Ground.phase }, { on := 6, ground := Ground.phase }, { on := 7, ground := Ground.phase }, { on := 8, ground := Ground.textOnly Departure.lateStores }, { on := 9, ground := Ground.textOnly Departure.lateStores }, { on := 10, ground := Ground.phase }, { on := 11, ground := Ground.phase }], guard := none }) rfl (fun K hK => ?_) AllReadyH.nil
              have HZ : Hid (wr.heap.size ≤ (w5.heap.size + 1) ∧ wr.heap.size ≤ (w5.heap.size) ∧ (w5.heap.size + 1) ≠ (w5.heap.size) ∧ (w5.heap.size) ≠ (w5.heap.size + 1)) := Lib.hid (by have s1 := HS5.out; (refine ⟨?_, ?_, ?_, ?_⟩) <;> (first | omega | (simp; done) | (simp; omega)))
              have ka := H.out.2 _ (List.mem_cons_self ..)
              have a0 := ka.cell 0
              have a1 := ka.cell 1
              have a2 := ka.cell 2
              have a3 := ka.cell 3
              have a4 := ka.cell 4
              have a5 := ka.cell 5
              have a6 := ka.cell 6
              have a7 := ka.cell 7
              have a8 := ka.cell 8
              have a9 := ka.cell 9
              have a10 := ka.cell 10
              have a11 := ka.cell 11
              have af := fun o => ka.frozen o
              have kb := H.out.2 _ (List.mem_cons_of_mem _ (List.mem_cons_self ..))
              have b0 := kb.cell 0
              have b1 := kb.cell 1
              have b2 := kb.cell 2
              have bf := fun o => kb.frozen o
              go_simp
              go_wp2_with fail
              refine hK.out _ _ ?_ (fun hHeld => ?_)
              · refine PC.out _ ?_; (repeat' first | (with_reducible exact DV) | (with_reducible exact Below.refl _ _) | (with_reducible refine Below.drew ?_) | (with_reducible refine Below.setCell ?_ ?_ _) | (with_reducible refine Below.alloc ?_ ?_ _) | exact DV.size | exact HZ.out.1 | exact HZ.out.2.1 | exact Nat.le_refl _ | (simp; done) | (have := DV.size; simp; omega) | (simp; omega))
              clear hK K
              try simp only [Act.put, List.setIfInBounds_toArray, List.set_cons_zero, List.set_cons_succ]
              clear ka kb af bf a0 a1 a2 a3 a4 a5 a6 a7 a8 a9 a10 a11 b0 b1 b2
              have H := Lib.hid ((HV.out.new #[.slice none 0 0, .int .i64 0, .bool false] 117).new #[.int .u8 (τ.x.k : Int), .int .u32 (τ.x.id : Int), .int .u16 (τ.x.code : Int), .bool τ.x.last, .int .u64 (τ.x.ep : Int), .int .u64 (τ.x.fl : Int), .int .u64 (τ.x.un : Int), .int .u64 (τ.x.le : Int), .int .u64 (τ.x.st : Int), .int .u64 (τ.x.ti : Int), .slice Q6 τ.x.n c6, .slice G6 τ.x.m d6] 40)
              rw [show (w5.alloc (.cells #[.slice none 0 0, .int .i64 0, .bool false] 117)).heap.size = w5.heap.size + 1 by simp] at H
              refine wpAnyH_ready (rs := [13]) (by kernel_rfl) (by simp) ?_
              refine AllReadyH.cons (o := { dst := none, op := Op.store 117 (Operand.tmp 12) (Operand.tmp 64), type := 0, pos := "ref.go:231", after := #[{ on := 11, ground := Ground.data }, { on := 8, ground := Ground.data }, { on := 12, ground := Ground.chain }, { on := 0, ground := Ground.phase }, { on := 1, ground := Ground.phase }, { on := 2, ground := Ground.phase }, { on := 3, ground := Ground.phase }, { on := 4, ground := Ground.phase }, { on := 5, ground := Ground.phase }, { on := 6, ground := Ground.phase }, { on := 7, ground := Ground.phase }, { on := 8, ground := Ground.phase }, { on := 9, ground := Ground.textOnly Departure.lateStores }, { on := 10, ground := Ground.phase }, { on := 11, ground := Ground.phase }, { on := 12, ground := Ground.phase }], guard := none }) rfl (fun K hK => ?_) AllReadyH.nil
              have ka := H.out.2 _ (List.mem_cons_self ..)
              have a0 := ka.cell 0
              have a1 := ka.cell 1
              have a2 := ka.cell 2
              have a3 := ka.cell 3
              have a4 := ka.cell 4
              have a5 := ka.cell 5
              have a6 := ka.cell 6
              have a7 := ka.cell 7
              have a8 := ka.cell 8
              have a9 := ka.cell 9
              have a10 := ka.cell 10
              have a11 := ka.cell 11
              have af := fun o => ka.frozen o
              have kb := H.out.2 _ (List.mem_cons_of_mem _ (List.mem_cons_self ..))
              have b0 := kb.cell 0
              have b1 := kb.cell 1
              have b2 := kb.cell 2
              have bf := fun o => kb.frozen o
              go_simp
              go_wp2_with fail
              refine hK.out _ _ ?_ (fun hHeld => ?_)
              · refine PC.out _ ?_; (repeat' first | (with_reducible exact DV) | (with_reducible exact Below.refl _ _) | (with_reducible refine Below.drew ?_) | (with_reducible refine Below.setCell ?_ ?_ _) | (with_reducible refine Below.alloc ?_ ?_ _) | exact DV.size | exact HZ.out.1 | exact HZ.out.2.1 | exact Nat.le_refl _ | (simp; done) | (have := DV.size; simp; omega) | (simp; omega))
              clear hK K
              try simp only [Act.put, List.setIfInBounds_toArray, List.set_cons_zero, List.set_cons_succ]
              clear ka kb af bf a0 a1 a2 a3 a4 a5 a6 a7 a8 a9 a10 a11 b0 b1 b2
              have H := Lib.hid ((HV.out.new #[.slice (some ⟨bb, off, none⟩) n c, .int .i64 (a6 : Int), .bool g6] 117).new #[.int .u8 (τ.x.k : Int), .int .u32 (τ.x.id : Int), .int .u16 (τ.x.code : Int), .bool τ.x.last, .int .u64 (τ.x.ep : Int), .int .u64 (τ.x.fl : Int), .int .u64 (τ.x.un : Int), .int .u64 (τ.x.le : Int), .int .u64 (τ.x.st : Int), .int .u64 (τ.x.ti : Int), .slice Q6 τ.x.n c6, .slice G6 τ.x.m d6] 40)
              rw [show (w5.alloc (.cells #[.slice (some ⟨bb, off, none⟩) n c, .int .i64 (a6 : Int), .bool g6] 117)).heap.size = w5.heap.size + 1 by simp] at H
              refine wpAnyH_take (i := 14) (oi := { dst := some 13, op := Op.assign (Operand.tmp 65), type := 4, pos := "ref.go:231", after := #[{ on := 9, ground := Ground.data }, { on := 13, ground := Ground.chain }, { on := 0, ground := Ground.phase }, { on := 1, ground := Ground.phase }, { on := 2, ground := Ground.phase }, { on := 3, ground := Ground.phase }, { on := 4, ground := Ground.phase }, { on := 5, ground := Ground.phase }, { on := 6, ground := Ground.phase }, { on := 7, ground := Ground.phase }, { on := 8, ground := Ground.phase }, { on := 9, ground := Ground.phase }, { on := 10, ground := Ground.phase }, { on := 11, ground := Ground.phase }, { on := 12, ground := Ground.phase }, { on := 13, ground := Ground.phase }], guard := none }) (v := ?_) rfl (by kernel_rfl) (by kernel_rfl) (by kernel_rfl) (fun _ _ _ h => h) (Or.inl ⟨by rfl, ?_⟩) (by assumption) ?_
              rotate_left
              · intro W hSW; (try dsimp only at hSW); go_simp; try with_reducible rfl
              try simp only [Act.put, List.setIfInBounds_toArray, List.set_cons_zero, List.set_cons_succ]
              refine wpAnyH_done (by kernel_rfl) ?_ _
              go_wp2_with fail
              go_meet
              exact ⟨(w5.heap.size + 1), (w5.heap.size), a6, g6, Q6, c6, G6, d6, od, rfl, rfl, rfl, HFF.out.1, HFF.out.2.1, HFF.out.2.2.1, H.out, ⟨HZ.out.1, HZ.out.2.1⟩, own_keep2 OR.out.1 (((Keep2.refl w5 (w5.heap.size + 1) (w5.heap.size)).alloc _).alloc _) (fun k hk => by have h := OR.out.2 k hk; have s1 := HS5.out; omega), own_keep2 OP.out.1 (((Keep2.refl w5 (w5.heap.size + 1) (w5.heap.size)).alloc _).alloc _) (fun k hk => by have h := OP.out.2 k hk; have s1 := HS5.out; omega), HFF.out.2.2.2.1, HFF.out.2.2.2.2⟩
          · go_simp
            go_wp2_with fail
            refine hK.out _ _ ?_ (fun hHeld => ?_)
            · refine PC.out _ ?_; (repeat' first | (with_reducible exact DV) | (with_reducible exact Below.refl _ _) | (with_reducible refine Below.drew ?_) | (with_reducible refine Below.setCell ?_ ?_ _) | (with_reducible refine Below.alloc ?_ ?_ _) | exact DV.size | exact HZ.out.1 | exact HZ.out.2.1 | exact Nat.le_refl _ | (simp; done) | (have := DV.size; simp; omega) | (simp; omega))
            clear hK K
            try simp only [Act.put, List.setIfInBounds_toArray, List.set_cons_zero, List.set_cons_succ]
            have H := Lib.hid (H.out.new #[.int .u8 0, .int .u32 0, .int .u16 0, .bool false, .int .u64 0, .int .u64 0, .int .u64 0, .int .u64 0, .int .u64 0, .int .u64 0, .slice none 0 0, .slice none 0 0] 40)
            refine wpAnyH_ready (rs := [5, 11]) (by kernel_rfl) (by simp) ?_
            refine AllReadyH.cons (o := { dst := some 62, op := Op.call { callee := Callee.value (Operand.func 65), args := #[Operand.tmp 57, Operand.tmp 60, Operand.tmp 61], argTypes := #[40, 5, 117] }, type := 120, pos := "ref.go:231", after := #[{ on := 0, ground := Ground.data }, { on := 3, ground := Ground.data }, { on := 4, ground := Ground.data }], guard := none }) rfl (fun K hK => ?_) (AllReadyH.cons (o := { dst := some 12, op := Op.alloc 117, type := 0, pos := "ref.go:231", after := #[], guard := none }) rfl (fun K hK => ?_) AllReadyH.nil)
            · go_simp
              go_at_call 65
              refine (TK.out _ (by (repeat' first | (with_reducible exact DV) | (with_reducible exact Below.refl _ _) | (with_reducible refine Below.drew ?_) | (with_reducible refine Below.setCell ?_ ?_ _) | (with_reducible refine Below.alloc ?_ ?_ _) | exact DV.size | exact HZ.out.1 | exact HZ.out.2.1 | exact Nat.le_refl _ | (simp; done) | (have := DV.size; simp; omega) | (simp; omega)))).mono ?_
              rintro e w5 ⟨a6, g6, Q6, c6, G6, d6, od, ha6, hs6, ho6, rfl, b5, hr6, hq6, hn6, hg6⟩
              have hX8 : (wr.alloc (.cells #[.int .u8 0, .int .u32 0, .int .u16 0, .bool false, .int .u64 0, .int .u64 0, .int .u64 0, .int .u64 0, .int .u64 0, .int .u64 0, .slice none 0 0, .slice none 0 0] 40)).drew.heap.size = wr.heap.size + 1 := by show (wr.alloc (.cells #[.int .u8 0, .int .u32 0, .int .u16 0, .bool false, .int .u64 0, .int .u64 0, .int .u64 0, .int .u64 0, .int .u64 0, .int .u64 0, .slice none 0 0, .slice none 0 0] 40)).heap.size = _; simp
              have b5 : Below (wr.alloc (.cells #[.int .u8 0, .int .u32 0, .int .u16 0, .bool false, .int .u64 0, .int .u64 0, .int .u64 0, .int .u64 0, .int .u64 0, .int .u64 0, .slice none 0 0, .slice none 0 0] 40)).drew.heap.size (wr.alloc (.cells #[.int .u8 0, .int .u32 0, .int .u16 0, .bool false, .int .u64 0, .int .u64 0, .int .u64 0, .int .u64 0, .int .u64 0, .int .u64 0, .slice none 0 0, .slice none 0 0] 40)).drew w5 := b5
              have H := Lib.hid (H.out.step (below_next ((Below.refl (wr.alloc (.cells #[.int .u8 0, .int .u32 0, .int .u16 0, .bool false, .int .u64 0, .int .u64 0, .int .u64 0, .int .u64 0, .int .u64 0, .int .u64 0, .slice none 0 0, .slice none 0 0] 40)).heap.size (wr.alloc (.cells #[.int .u8 0, .int .u32 0, .int .u16 0, .bool false, .int .u64 0, .int .u64 0, .int .u64 0, .int .u64 0, .int .u64 0, .int .u64 0, .slice none 0 0, .slice none 0 0] 40))).drew) b5))
              have DV := H.out.1
              have OR := Lib.hid (own8 (X := (wr.alloc (.cells #[.int .u8 0, .int .u32 0, .int .u16 0, .bool false, .int .u64 0, .int .u64 0, .int .u64 0, .int .u64 0, .int .u64 0, .int .u64 0, .slice none 0 0, .slice none 0 0] 40)).drew) (p := p) (q := 8) (by omega) HSZ8.out.2 DV hr6 hq6 (fun h => by rw [← HST8.out]; exact Rp.Sg.rstep_rows σ p h) HLD.out.2.2.2.2.1)
              have OP := Lib.hid (own8 (X := (wr.alloc (.cells #[.int .u8 0, .int .u32 0, .int .u16 0, .bool false, .int .u64 0, .int .u64 0, .int .u64 0, .int .u64 0, .int .u64 0, .int .u64 0, .slice none 0 0, .slice none 0 0] 40)).drew) (p := p) (q := 9) (by omega) HSZ8.out.2 DV hn6 hg6 (fun h => by rw [← HST8.out]; exact Rp.Sg.rstep_gone σ p h) HLD.out.2.2.2.2.2.1)
              have HS5 := Lib.hid (And.intro hX8 b5.size)
              have HFF := Lib.hid (And.intro ha6 (And.intro hs6 (And.intro ho6 (And.intro hq6 hg6))))
              have HV := H
              clear b5 hr6 hn6 hX8 ha6 hs6 ho6 hq6 hg6
              go_wp2_with fail
              refine hK.out _ _ ?_ (fun hHeld => ?_)
              · refine PC.out _ ?_; (repeat' first | (with_reducible exact DV) | (with_reducible exact Below.refl _ _) | (with_reducible refine Below.drew ?_) | (with_reducible refine Below.setCell ?_ ?_ _) | (with_reducible refine Below.alloc ?_ ?_ _) | exact DV.size | exact HZ.out.1 | exact HZ.out.2.1 | exact Nat.le_refl _ | (simp; done) | (have := DV.size; simp; omega) | (simp; omega))
              clear hK K
              try simp only [Act.put, List.setIfInBounds_toArray, List.set_cons_zero, List.set_cons_succ]
              refine wpAnyH_take (i := 6) (oi := { dst := some 56, op := Op.move (Operand.tmp 62), type := 120, pos := "ref.go:231", after := #[{ on := 5, ground := Ground.data }], guard := none }) (v := ?_) rfl (by kernel_rfl) (by kernel_rfl) (by kernel_rfl) (fun _ _ _ h => h) (Or.inl ⟨by rfl, ?_⟩) (by assumption) ?_
              rotate_left
              · intro W hSW; (try dsimp only at hSW); go_simp; try with_reducible rfl
              try simp only [Act.put, List.setIfInBounds_toArray, List.set_cons_zero, List.set_cons_succ]
              refine wpAnyH_take (i := 7) (oi := { dst := some 63, op := Op.extract (Operand.tmp 56) 0, type := 40, pos := "ref.go:231", after := #[{ on := 6, ground := Ground.data }], guard := none }) (v := ?_) rfl (by kernel_rfl) (by kernel_rfl) (by kernel_rfl) (fun _ _ _ h => h) (Or.inl ⟨by rfl, ?_⟩) (by assumption) ?_
              rotate_left
              · intro W hSW; (try dsimp only at hSW); go_simp; try with_reducible rfl
              try simp only [Act.put, List.setIfInBounds_toArray, List.set_cons_zero, List.set_cons_succ]
              refine wpAnyH_take (i := 8) (oi := { dst := some 64, op := Op.extract (Operand.tmp 56) 1, type := 117, pos := "ref.go:231", after := #[{ on := 6, ground := Ground.data }, { on := 12, ground := Ground.gcOnly Departure.lateStores }], guard := none }) (v := ?_) rfl (by kernel_rfl) (by kernel_rfl) (by kernel_rfl) (fun _ _ _ h => h) (Or.inl ⟨by rfl, ?_⟩) (by assumption) ?_
              rotate_left
              · intro W hSW; (try dsimp only at hSW); go_simp; try with_reducible rfl
              try simp only [Act.put, List.setIfInBounds_toArray, List.set_cons_zero, List.set_cons_succ]
              refine wpAnyH_take (i := 9) (oi := { dst := some 65, op := Op.extract (Operand.tmp 56) 2, type := 4, pos := "ref.go:231", after := #[{ on := 6, ground := Ground.data }, { on := 13, ground := Ground.gcOnly Departure.lateStores }], guard := none }) (v := ?_) rfl (by kernel_rfl) (by kernel_rfl) (by kernel_rfl) (fun _ _ _ h => h) (Or.inl ⟨by rfl, ?_⟩) (by assumption) ?_
              rotate_left
              · intro W hSW; (try dsimp only at hSW); go_simp; try with_reducible rfl
              try simp only [Act.put, List.setIfInBounds_toArray, List.set_cons_zero, List.set_cons_succ]
              refine wpAnyH_ready (rs := [11]) (by kernel_rfl) (by simp) ?_
              refine AllReadyH.cons (o := { dst := some 12, op := Op.alloc 117, type := 0, pos := "ref.go:231", after := #[], guard := none }) rfl (fun K hK => ?_) AllReadyH.nil
              go_simp
              go_wp2_with fail
              refine hK.out _ _ ?_ (fun hHeld => ?_)
              · refine PC.out _ ?_; (repeat' first | (with_reducible exact DV) | (with_reducible exact Below.refl _ _) | (with_reducible refine Below.drew ?_) | (with_reducible refine Below.setCell ?_ ?_ _) | (with_reducible refine Below.alloc ?_ ?_ _) | exact DV.size | exact HZ.out.1 | exact HZ.out.2.1 | exact Nat.le_refl _ | (simp; done) | (have := DV.size; simp; omega) | (simp; omega))
              clear hK K
              try simp only [Act.put, List.setIfInBounds_toArray, List.set_cons_zero, List.set_cons_succ]
              have H := Lib.hid (H.out.new #[.slice none 0 0, .int .i64 0, .bool false] 117)
              refine wpAnyH_ready (rs := [12]) (by kernel_rfl) (by simp) ?_
              refine AllReadyH.cons (o := { dst := none, op := Op.store 40 (Operand.tmp 11) (Operand.tmp 63), type := 0, pos := "ref.go:231", after := #[{ on := 10, ground := Ground.data }, { on := 7, ground := Ground.data }, { on := 5, ground := Ground.chain }, { on := 0, ground := Ground.phase }, { on := 1, ground := Ground.phase }, { on := 2, ground := Ground.phase }, { on := 3, ground := Ground.phase }, { on := 4, ground := Ground.phase }, { on := 5, ground := Ground.phase }, { on := 6, ground := Ground.phase }, { on := 7, ground := Ground.phase }, { on := 8, ground := Ground.textOnly Departure.lateStores }, { on := 9, ground := Ground.textOnly Departure.lateStores }, { on := 10, ground := Ground.phase }, { on := 11, ground := Ground.phase }], guard := none }) rfl (fun K hK => ?_) AllReadyH.nil
              have HZ : Hid (wr.heap.size ≤ (wr.heap.size) ∧ wr.heap.size ≤ (w5.heap.size) ∧ (wr.heap.size) ≠ (w5.heap.size) ∧ (w5.heap.size) ≠ (wr.heap.size)) := Lib.hid (by have s1 := HS5.out; (refine ⟨?_, ?_, ?_, ?_⟩) <;> (first | omega | (simp; done) | (simp; omega)))
              have kb := H.out.2 _ (List.mem_cons_self ..)
              have b0 := kb.cell 0
              have b1 := kb.cell 1
              have b2 := kb.cell 2
              have bf := fun o => kb.frozen o
              have ka := H.out.2 _ (List.mem_cons_of_mem _ (List.mem_cons_self ..))
              have a0 := ka.cell 0
              have a1 := ka.cell 1
              have a2 := ka.cell 2
              have a3 := ka.cell 3
              have a4 := ka.cell 4
              have a5 := ka.cell 5
              have a6 := ka.cell 6
              have a7 := ka.cell 7
              have a8 := ka.cell 8
              have a9 := ka.cell 9
              have a10 := ka.cell 10
              have a11 := ka.cell 11
              have af := fun o => ka.frozen o
              go_simp
              go_wp2_with fail
              refine hK.out _ _ ?_ (fun hHeld => ?_)
              · refine PC.out _ ?_; (repeat' first | (with_reducible exact DV) | (with_reducible exact Below.refl _ _) | (with_reducible refine Below.drew ?_) | (with_reducible refine Below.setCell ?_ ?_ _) | (with_reducible refine Below.alloc ?_ ?_ _) | exact DV.size | exact HZ.out.1 | exact HZ.out.2.1 | exact Nat.le_refl _ | (simp; done) | (have := DV.size; simp; omega) | (simp; omega))
              clear hK K
              try simp only [Act.put, List.setIfInBounds_toArray, List.set_cons_zero, List.set_cons_succ]
              clear ka kb af bf a0 a1 a2 a3 a4 a5 a6 a7 a8 a9 a10 a11 b0 b1 b2
              have H := Lib.hid ((H.out.swap8).twelve8 HZ.out.1 (ne8 HZ.out.2.2.1) (.int .u8 (τ.x.k : Int)) (.int .u32 (τ.x.id : Int)) (.int .u16 (τ.x.code : Int)) (.bool τ.x.last) (.int .u64 (τ.x.ep : Int)) (.int .u64 (τ.x.fl : Int)) (.int .u64 (τ.x.un : Int)) (.int .u64 (τ.x.le : Int)) (.int .u64 (τ.x.st : Int)) (.int .u64 (τ.x.ti : Int)) (.slice Q6 τ.x.n c6) (.slice G6 τ.x.m d6))
              refine wpAnyH_ready (rs := [13]) (by kernel_rfl) (by simp) ?_
              refine AllReadyH.cons (o := { dst := none, op := Op.store 117 (Operand.tmp 12) (Operand.tmp 64), type := 0, pos := "ref.go:231", after := #[{ on := 11, ground := Ground.data }, { on := 8, ground := Ground.data }, { on := 12, ground := Ground.chain }, { on := 0, ground := Ground.phase }, { on := 1, ground := Ground.phase }, { on := 2, ground := Ground.phase }, { on := 3, ground := Ground.phase }, { on := 4, ground := Ground.phase }, { on := 5, ground := Ground.phase }, { on := 6, ground := Ground.phase }, { on := 7, ground := Ground.phase }, { on := 8, ground := Ground.phase }, { on := 9, ground := Ground.textOnly Departure.lateStores }, { on := 10, ground := Ground.phase }, { on := 11, ground := Ground.phase }, { on := 12, ground := Ground.phase }], guard := none }) rfl (fun K hK => ?_) AllReadyH.nil
              have ka := H.out.2 _ (List.mem_cons_self ..)
              have a0 := ka.cell 0
              have a1 := ka.cell 1
              have a2 := ka.cell 2
              have a3 := ka.cell 3
              have a4 := ka.cell 4
              have a5 := ka.cell 5
              have a6 := ka.cell 6
              have a7 := ka.cell 7
              have a8 := ka.cell 8
              have a9 := ka.cell 9
              have a10 := ka.cell 10
              have a11 := ka.cell 11
              have af := fun o => ka.frozen o
              have kb := H.out.2 _ (List.mem_cons_of_mem _ (List.mem_cons_self ..))
              have b0 := kb.cell 0
              have b1 := kb.cell 1
              have b2 := kb.cell 2
              have bf := fun o => kb.frozen o
              go_simp
              go_wp2_with fail
              refine hK.out _ _ ?_ (fun hHeld => ?_)
              · refine PC.out _ ?_; (repeat' first | (with_reducible exact DV) | (with_reducible exact Below.refl _ _) | (with_reducible refine Below.drew ?_) | (with_reducible refine Below.setCell ?_ ?_ _) | (with_reducible refine Below.alloc ?_ ?_ _) | exact DV.size | exact HZ.out.1 | exact HZ.out.2.1 | exact Nat.le_refl _ | (simp; done) | (have := DV.size; simp; omega) | (simp; omega))
              clear hK K
              try simp only [Act.put, List.setIfInBounds_toArray, List.set_cons_zero, List.set_cons_succ]
              clear ka kb af bf a0 a1 a2 a3 a4 a5 a6 a7 a8 a9 a10 a11 b0 b1 b2
              have H := Lib.hid ((H.out.swap8).three8 HZ.out.2.1 (ne8 HZ.out.2.2.2) (.slice (some ⟨bb, off, none⟩) n c) (.int .i64 (a6 : Int)) (.bool g6))
              refine wpAnyH_take (i := 14) (oi := { dst := some 13, op := Op.assign (Operand.tmp 65), type := 4, pos := "ref.go:231", after := #[{ on := 9, ground := Ground.data }, { on := 13, ground := Ground.chain }, { on := 0, ground := Ground.phase }, { on := 1, ground := Ground.phase }, { on := 2, ground := Ground.phase }, { on := 3, ground := Ground.phase }, { on := 4, ground := Ground.phase }, { on := 5, ground := Ground.phase }, { on := 6, ground := Ground.phase }, { on := 7, ground := Ground.phase }, { on := 8, ground := Ground.phase }, { on := 9, ground := Ground.phase }, { on := 10, ground := Ground.phase }, { on := 11, ground := Ground.phase }, { on := 12, ground := Ground.phase }, { on := 13, ground := Ground.phase }], guard := none }) (v := ?_) rfl (by kernel_rfl) (by kernel_rfl) (by kernel_rfl) (fun _ _ _ h => h) (Or.inl ⟨by rfl, ?_⟩) (by assumption) ?_
              rotate_left
              · intro W hSW; (try dsimp only at hSW); go_simp; try with_reducible rfl
              try simp only [Act.put, List.setIfInBounds_toArray, List.set_cons_zero, List.set_cons_succ]
              refine wpAnyH_done (by kernel_rfl) ?_ _
              go_wp2_with fail
              go_meet
              exact ⟨(wr.heap.size), (w5.heap.size), a6, g6, Q6, c6, G6, d6, od, rfl, rfl, rfl, HFF.out.1, HFF.out.2.1, HFF.out.2.2.1, H.out.swap8, ⟨HZ.out.1, HZ.out.2.1⟩, own_keep2 OR.out.1 (((((((((((((((((Keep2.refl w5 (wr.heap.size) (w5.heap.size)).alloc _).set (.inl rfl) 0 _).set (.inl rfl) 1 _).set (.inl rfl) 2 _).set (.inl rfl) 3 _).set (.inl rfl) 4 _).set (.inl rfl) 5 _).set (.inl rfl) 6 _).set (.inl rfl) 7 _).set (.inl rfl) 8 _).set (.inl rfl) 9 _).set (.inl rfl) 10 _).set (.inl rfl) 11 _).set (.inr rfl) 0 _).set (.inr rfl) 1 _).set (.inr rfl) 2 _) (fun k hk => by have h := OR.out.2 k hk; have s1 := HS5.out; omega), own_keep2 OP.out.1 (((((((((((((((((Keep2.refl w5 (wr.heap.size) (w5.heap.size)).alloc _).set (.inl rfl) 0 _).set (.inl rfl) 1 _).set (.inl rfl) 2 _).set (.inl rfl) 3 _).set (.inl rfl) 4 _).set (.inl rfl) 5 _).set (.inl rfl) 6 _).set (.inl rfl) 7 _).set (.inl rfl) 8 _).set (.inl rfl) 9 _).set (.inl rfl) 10 _).set (.inl rfl) 11 _).set (.inr rfl) 0 _).set (.inr rfl) 1 _).set (.inr rfl) 2 _) (fun k hk => by have h := OP.out.2 k hk; have s1 := HS5.out; omega), HFF.out.2.2.2.1, HFF.out.2.2.2.2⟩
            · go_simp
              go_wp2_with fail
              refine hK.out _ _ ?_ (fun hHeld => ?_)
              · refine PC.out _ ?_; (repeat' first | (with_reducible exact DV) | (with_reducible exact Below.refl _ _) | (with_reducible refine Below.drew ?_) | (with_reducible refine Below.setCell ?_ ?_ _) | (with_reducible refine Below.alloc ?_ ?_ _) | exact DV.size | exact HZ.out.1 | exact HZ.out.2.1 | exact Nat.le_refl _ | (simp; done) | (have := DV.size; simp; omega) | (simp; omega))
              clear hK K
              try simp only [Act.put, List.setIfInBounds_toArray, List.set_cons_zero, List.set_cons_succ]
              have H := Lib.hid (H.out.new #[.slice none 0 0, .int .i64 0, .bool false] 117)
              rw [show (wr.alloc (.cells #[.int .u8 0, .int .u32 0, .int .u16 0, .bool false, .int .u64 0, .int .u64 0, .int .u64 0, .int .u64 0, .int .u64 0, .int .u64 0, .slice none 0 0, .slice none 0 0] 40)).heap.size = wr.heap.size + 1 by simp] at H
              refine wpAnyH_ready (rs := [5]) (by kernel_rfl) (by simp) ?_
              refine AllReadyH.cons (o := { dst := some 62, op := Op.call { callee := Callee.value (Operand.func 65), args := #[Operand.tmp 57, Operand.tmp 60, Operand.tmp 61], argTypes := #[40, 5, 117] }, type := 120, pos := "ref.go:231", after := #[{ on := 0, ground := Ground.data }, { on := 3, ground := Ground.data }, { on := 4, ground := Ground.data }], guard := none }) rfl (fun K hK => ?_) AllReadyH.nil
              go_simp
              go_at_call 65
              refine (TK.out _ (by (repeat' first | (with_reducible exact DV) | (with_reducible exact Below.refl _ _) | (with_reducible refine Below.drew ?_) | (with_reducible refine Below.setCell ?_ ?_ _) | (with_reducible refine Below.alloc ?_ ?_ _) | exact DV.size | exact HZ.out.1 | exact HZ.out.2.1 | exact Nat.le_refl _ | (simp; done) | (have := DV.size; simp; omega) | (simp; omega)))).mono ?_
              rintro e w5 ⟨a6, g6, Q6, c6, G6, d6, od, ha6, hs6, ho6, rfl, b5, hr6, hq6, hn6, hg6⟩
              have hX8 : ((wr.alloc (.cells #[.int .u8 0, .int .u32 0, .int .u16 0, .bool false, .int .u64 0, .int .u64 0, .int .u64 0, .int .u64 0, .int .u64 0, .int .u64 0, .slice none 0 0, .slice none 0 0] 40)).alloc (.cells #[.slice none 0 0, .int .i64 0, .bool false] 117)).drew.heap.size = wr.heap.size + 2 := by show ((wr.alloc (.cells #[.int .u8 0, .int .u32 0, .int .u16 0, .bool false, .int .u64 0, .int .u64 0, .int .u64 0, .int .u64 0, .int .u64 0, .int .u64 0, .slice none 0 0, .slice none 0 0] 40)).alloc (.cells #[.slice none 0 0, .int .i64 0, .bool false] 117)).heap.size = _; simp
              have b5 : Below ((wr.alloc (.cells #[.int .u8 0, .int .u32 0, .int .u16 0, .bool false, .int .u64 0, .int .u64 0, .int .u64 0, .int .u64 0, .int .u64 0, .int .u64 0, .slice none 0 0, .slice none 0 0] 40)).alloc (.cells #[.slice none 0 0, .int .i64 0, .bool false] 117)).drew.heap.size ((wr.alloc (.cells #[.int .u8 0, .int .u32 0, .int .u16 0, .bool false, .int .u64 0, .int .u64 0, .int .u64 0, .int .u64 0, .int .u64 0, .int .u64 0, .slice none 0 0, .slice none 0 0] 40)).alloc (.cells #[.slice none 0 0, .int .i64 0, .bool false] 117)).drew w5 := b5
              have H := Lib.hid (H.out.step (below_next ((Below.refl ((wr.alloc (.cells #[.int .u8 0, .int .u32 0, .int .u16 0, .bool false, .int .u64 0, .int .u64 0, .int .u64 0, .int .u64 0, .int .u64 0, .int .u64 0, .slice none 0 0, .slice none 0 0] 40)).alloc (.cells #[.slice none 0 0, .int .i64 0, .bool false] 117)).heap.size ((wr.alloc (.cells #[.int .u8 0, .int .u32 0, .int .u16 0, .bool false, .int .u64 0, .int .u64 0, .int .u64 0, .int .u64 0, .int .u64 0, .int .u64 0, .slice none 0 0, .slice none 0 0] 40)).alloc (.cells #[.slice none 0 0, .int .i64 0, .bool false] 117))).drew) b5))
              have DV := H.out.1
              have OR := Lib.hid (own8 (X := ((wr.alloc (.cells #[.int .u8 0, .int .u32 0, .int .u16 0, .bool false, .int .u64 0, .int .u64 0, .int .u64 0, .int .u64 0, .int .u64 0, .int .u64 0, .slice none 0 0, .slice none 0 0] 40)).alloc (.cells #[.slice none 0 0, .int .i64 0, .bool false] 117)).drew) (p := p) (q := 8) (by omega) HSZ8.out.2 DV hr6 hq6 (fun h => by rw [← HST8.out]; exact Rp.Sg.rstep_rows σ p h) HLD.out.2.2.2.2.1)
              have OP := Lib.hid (own8 (X := ((wr.alloc (.cells #[.int .u8 0, .int .u32 0, .int .u16 0, .bool false, .int .u64 0, .int .u64 0, .int .u64 0, .int .u64 0, .int .u64 0, .int .u64 0, .slice none 0 0, .slice none 0 0] 40)).alloc (.cells #[.slice none 0 0, .int .i64 0, .bool false] 117)).drew) (p := p) (q := 9) (by omega) HSZ8.out.2 DV hn6 hg6 (fun h => by rw [← HST8.out]; exact Rp.Sg.rstep_gone σ p h) HLD.out.2.2.2.2.2.1)
              have HS5 := Lib.hid (And.intro hX8 b5.size)
              have HFF := Lib.hid (And.intro ha6 (And.intro hs6 (And.intro ho6 (And.intro hq6 hg6))))
              have HV := H
              clear b5 hr6 hn6 hX8 ha6 hs6 ho6 hq6 hg6
              go_wp2_with fail
              refine hK.out _ _ ?_ (fun hHeld => ?_)
              · refine PC.out _ ?_; (repeat' first | (with_reducible exact DV) | (with_reducible exact Below.refl _ _) | (with_reducible refine Below.drew ?_) | (with_reducible refine Below.setCell ?_ ?_ _) | (with_reducible refine Below.alloc ?_ ?_ _) | exact DV.size | exact HZ.out.1 | exact HZ.out.2.1 | exact Nat.le_refl _ | (simp; done) | (have := DV.size; simp; omega) | (simp; omega))
              clear hK K
              try simp only [Act.put, List.setIfInBounds_toArray, List.set_cons_zero, List.set_cons_succ]
              refine wpAnyH_take (i := 6) (oi := { dst := some 56, op := Op.move (Operand.tmp 62), type := 120, pos := "ref.go:231", after := #[{ on := 5, ground := Ground.data }], guard := none }) (v := ?_) rfl (by kernel_rfl) (by kernel_rfl) (by kernel_rfl) (fun _ _ _ h => h) (Or.inl ⟨by rfl, ?_⟩) (by assumption) ?_
              rotate_left
              · intro W hSW; (try dsimp only at hSW); go_simp; try with_reducible rfl
              try simp only [Act.put, List.setIfInBounds_toArray, List.set_cons_zero, List.set_cons_succ]
              refine wpAnyH_take (i := 7) (oi := { dst := some 63, op := Op.extract (Operand.tmp 56) 0, type := 40, pos := "ref.go:231", after := #[{ on := 6, ground := Ground.data }], guard := none }) (v := ?_) rfl (by kernel_rfl) (by kernel_rfl) (by kernel_rfl) (fun _ _ _ h => h) (Or.inl ⟨by rfl, ?_⟩) (by assumption) ?_
              rotate_left
              · intro W hSW; (try dsimp only at hSW); go_simp; try with_reducible rfl
              try simp only [Act.put, List.setIfInBounds_toArray, List.set_cons_zero, List.set_cons_succ]
              refine wpAnyH_take (i := 8) (oi := { dst := some 64, op := Op.extract (Operand.tmp 56) 1, type := 117, pos := "ref.go:231", after := #[{ on := 6, ground := Ground.data }, { on := 12, ground := Ground.gcOnly Departure.lateStores }], guard := none }) (v := ?_) rfl (by kernel_rfl) (by kernel_rfl) (by kernel_rfl) (fun _ _ _ h => h) (Or.inl ⟨by rfl, ?_⟩) (by assumption) ?_
              rotate_left
              · intro W hSW; (try dsimp only at hSW); go_simp; try with_reducible rfl
              try simp only [Act.put, List.setIfInBounds_toArray, List.set_cons_zero, List.set_cons_succ]
              refine wpAnyH_take (i := 9) (oi := { dst := some 65, op := Op.extract (Operand.tmp 56) 2, type := 4, pos := "ref.go:231", after := #[{ on := 6, ground := Ground.data }, { on := 13, ground := Ground.gcOnly Departure.lateStores }], guard := none }) (v := ?_) rfl (by kernel_rfl) (by kernel_rfl) (by kernel_rfl) (fun _ _ _ h => h) (Or.inl ⟨by rfl, ?_⟩) (by assumption) ?_
              rotate_left
              · intro W hSW; (try dsimp only at hSW); go_simp; try with_reducible rfl
              try simp only [Act.put, List.setIfInBounds_toArray, List.set_cons_zero, List.set_cons_succ]
              refine wpAnyH_ready (rs := [12]) (by kernel_rfl) (by simp) ?_
              refine AllReadyH.cons (o := { dst := none, op := Op.store 40 (Operand.tmp 11) (Operand.tmp 63), type := 0, pos := "ref.go:231", after := #[{ on := 10, ground := Ground.data }, { on := 7, ground := Ground.data }, { on := 5, ground := Ground.chain }, { on := 0, ground := Ground.phase }, { on := 1, ground := Ground.phase }, { on := 2, ground := Ground.phase }, { on := 3, ground := Ground.phase }, { on := 4, ground := Ground.phase }, { on := 5, ground := Ground.phase }, { on := 6, ground := Ground.phase }, { on := 7, ground := Ground.phase }, { on := 8, ground := Ground.textOnly Departure.lateStores }, { on := 9, ground := Ground.textOnly Departure.lateStores }, { on := 10, ground := Ground.phase }, { on := 11, ground := Ground.phase }], guard := none }) rfl (fun K hK => ?_) AllReadyH.nil
              have HZ : Hid (wr.heap.size ≤ (wr.heap.size) ∧ wr.heap.size ≤ (wr.heap.size + 1) ∧ (wr.heap.size) ≠ (wr.heap.size + 1) ∧ (wr.heap.size + 1) ≠ (wr.heap.size)) := Lib.hid (by have s1 := HS5.out; (refine ⟨?_, ?_, ?_, ?_⟩) <;> (first | omega | (simp; done) | (simp; omega)))
              have kb := H.out.2 _ (List.mem_cons_self ..)
              have b0 := kb.cell 0
              have b1 := kb.cell 1
              have b2 := kb.cell 2
              have bf := fun o => kb.frozen o
              have ka := H.out.2 _ (List.mem_cons_of_mem _ (List.mem_cons_self ..))
              have a0 := ka.cell 0
              have a1 := ka.cell 1
              have a2 := ka.cell 2
              have a3 := ka.cell 3
              have a4 := ka.cell 4
              have a5 := ka.cell 5
              have a6 := ka.cell 6
              have a7 := ka.cell 7
              have a8 := ka.cell 8
              have a9 := ka.cell 9
              have a10 := ka.cell 10
              have a11 := ka.cell 11
              have af := fun o => ka.frozen o
              go_simp
              go_wp2_with fail
              refine hK.out _ _ ?_ (fun hHeld => ?_)
              · refine PC.out _ ?_; (repeat' first | (with_reducible exact DV) | (with_reducible exact Below.refl _ _) | (with_reducible refine Below.drew ?_) | (with_reducible refine Below.setCell ?_ ?_ _) | (with_reducible refine Below.alloc ?_ ?_ _) | exact DV.size | exact HZ.out.1 | exact HZ.out.2.1 | exact Nat.le_refl _ | (simp; done) | (have := DV.size; simp; omega) | (simp; omega))
              clear hK K
              try simp only [Act.put, List.setIfInBounds_toArray, List.set_cons_zero, List.set_cons_succ]
              clear ka kb af bf a0 a1 a2 a3 a4 a5 a6 a7 a8 a9 a10 a11 b0 b1 b2
              have H := Lib.hid ((H.out.swap8).twelve8 HZ.out.1 (ne8 HZ.out.2.2.1) (.int .u8 (τ.x.k : Int)) (.int .u32 (τ.x.id : Int)) (.int .u16 (τ.x.code : Int)) (.bool τ.x.last) (.int .u64 (τ.x.ep : Int)) (.int .u64 (τ.x.fl : Int)) (.int .u64 (τ.x.un : Int)) (.int .u64 (τ.x.le : Int)) (.int .u64 (τ.x.st : Int)) (.int .u64 (τ.x.ti : Int)) (.slice Q6 τ.x.n c6) (.slice G6 τ.x.m d6))
              refine wpAnyH_ready (rs := [13]) (by kernel_rfl) (by simp) ?_
              refine AllReadyH.cons (o := { dst := none, op := Op.store 117 (Operand.tmp 12) (Operand.tmp 64), type := 0, pos := "ref.go:231", after := #[{ on := 11, ground := Ground.data }, { on := 8, ground := Ground.data }, { on := 12, ground := Ground.chain }, { on := 0, ground := Ground.phase }, { on := 1, ground := Ground.phase }, { on := 2, ground := Ground.phase }, { on := 3, ground := Ground.phase }, { on := 4, ground := Ground.phase }, { on := 5, ground := Ground.phase }, { on := 6, ground := Ground.phase }, { on := 7, ground := Ground.phase }, { on := 8, ground := Ground.phase }, { on := 9, ground := Ground.textOnly Departure.lateStores }, { on := 10, ground := Ground.phase }, { on := 11, ground := Ground.phase }, { on := 12, ground := Ground.phase }], guard := none }) rfl (fun K hK => ?_) AllReadyH.nil
              have ka := H.out.2 _ (List.mem_cons_self ..)
              have a0 := ka.cell 0
              have a1 := ka.cell 1
              have a2 := ka.cell 2
              have a3 := ka.cell 3
              have a4 := ka.cell 4
              have a5 := ka.cell 5
              have a6 := ka.cell 6
              have a7 := ka.cell 7
              have a8 := ka.cell 8
              have a9 := ka.cell 9
              have a10 := ka.cell 10
              have a11 := ka.cell 11
              have af := fun o => ka.frozen o
              have kb := H.out.2 _ (List.mem_cons_of_mem _ (List.mem_cons_self ..))
              have b0 := kb.cell 0
              have b1 := kb.cell 1
              have b2 := kb.cell 2
              have bf := fun o => kb.frozen o
              go_simp
              go_wp2_with fail
              refine hK.out _ _ ?_ (fun hHeld => ?_)
              · refine PC.out _ ?_; (repeat' first | (with_reducible exact DV) | (with_reducible exact Below.refl _ _) | (with_reducible refine Below.drew ?_) | (with_reducible refine Below.setCell ?_ ?_ _) | (with_reducible refine Below.alloc ?_ ?_ _) | exact DV.size | exact HZ.out.1 | exact HZ.out.2.1 | exact Nat.le_refl _ | (simp; done) | (have := DV.size; simp; omega) | (simp; omega))
              clear hK K
              try simp only [Act.put, List.setIfInBounds_toArray, List.set_cons_zero, List.set_cons_succ]
              clear ka kb af bf a0 a1 a2 a3 a4 a5 a6 a7 a8 a9 a10 a11 b0 b1 b2
              have H := Lib.hid ((H.out.swap8).three8 HZ.out.2.1 (ne8 HZ.out.2.2.2) (.slice (some ⟨bb, off, none⟩) n c) (.int .i64 (a6 : Int)) (.bool g6))
              refine wpAnyH_take (i := 14) (oi := { dst := some 13, op := Op.assign (Operand.tmp 65), type := 4, pos := "ref.go:231", after := #[{ on := 9, ground := Ground.data }, { on := 13, ground := Ground.chain }, { on := 0, ground := Ground.phase }, { on := 1, ground := Ground.phase }, { on := 2, ground := Ground.phase }, { on := 3, ground := Ground.phase }, { on := 4, ground := Ground.phase }, { on := 5, ground := Ground.phase }, { on := 6, ground := Ground.phase }, { on := 7, ground := Ground.phase }, { on := 8, ground := Ground.phase }, { on := 9, ground := Ground.phase }, { on := 10, ground := Ground.phase }, { on := 11, ground := Ground.phase }, { on := 12, ground := Ground.phase }, { on := 13, ground := Ground.phase }], guard := none }) (v := ?_) rfl (by kernel_rfl) (by kernel_rfl) (by kernel_rfl) (fun _ _ _ h => h) (Or.inl ⟨by rfl, ?_⟩) (by assumption) ?_
              rotate_left
              · intro W hSW; (try dsimp only at hSW); go_simp; try with_reducible rfl
              try simp only [Act.put, List.setIfInBounds_toArray, List.set_cons_zero, List.set_cons_succ]
              refine wpAnyH_done (by kernel_rfl) ?_ _
              go_wp2_with fail
              go_meet
              exact ⟨(wr.heap.size), (wr.heap.size + 1), a6, g6, Q6, c6, G6, d6, od, rfl, rfl, rfl, HFF.out.1, HFF.out.2.1, HFF.out.2.2.1, H.out.swap8, ⟨HZ.out.1, HZ.out.2.1⟩, own_keep2 OR.out.1 ((((((((((((((((Keep2.refl w5 (wr.heap.size) (wr.heap.size + 1)).set (.inl rfl) 0 _).set (.inl rfl) 1 _).set (.inl rfl) 2 _).set (.inl rfl) 3 _).set (.inl rfl) 4 _).set (.inl rfl) 5 _).set (.inl rfl) 6 _).set (.inl rfl) 7 _).set (.inl rfl) 8 _).set (.inl rfl) 9 _).set (.inl rfl) 10 _).set (.inl rfl) 11 _).set (.inr rfl) 0 _).set (.inr rfl) 1 _).set (.inr rfl) 2 _) (fun k hk => by have h := OR.out.2 k hk; have s1 := HS5.out; omega), own_keep2 OP.out.1 ((((((((((((((((Keep2.refl w5 (wr.heap.size) (wr.heap.size + 1)).set (.inl rfl) 0 _).set (.inl rfl) 1 _).set (.inl rfl) 2 _).set (.inl rfl) 3 _).set (.inl rfl) 4 _).set (.inl rfl) 5 _).set (.inl rfl) 6 _).set (.inl rfl) 7 _).set (.inl rfl) 8 _).set (.inl rfl) 9 _).set (.inl rfl) 10 _).set (.inl rfl) 11 _).set (.inr rfl) 0 _).set (.inr rfl) 1 _).set (.inr rfl) 2 _) (fun k hk => by have h := OP.out.2 k hk; have s1 := HS5.out; omega), HFF.out.2.2.2.1, HFF.out.2.2.2.2⟩
          · go_simp
            go_wp2_with fail
            refine hK.out _ _ ?_ (fun hHeld => ?_)
            · refine PC.out _ ?_; (repeat' first | (with_reducible exact DV) | (with_reducible exact Below.refl _ _) | (with_reducible refine Below.drew ?_) | (with_reducible refine Below.setCell ?_ ?_ _) | (with_reducible refine Below.alloc ?_ ?_ _) | exact DV.size | exact HZ.out.1 | exact HZ.out.2.1 | exact Nat.le_refl _ | (simp; done) | (have := DV.size; simp; omega) | (simp; omega))
            clear hK K
            try simp only [Act.put, List.setIfInBounds_toArray, List.set_cons_zero, List.set_cons_succ]
            have H := Lib.hid (H.out.new #[.slice none 0 0, .int .i64 0, .bool false] 117)
            refine wpAnyH_ready (rs := [5, 10]) (by kernel_rfl) (by simp) ?_
            refine AllReadyH.cons (o := { dst := some 62, op := Op.call { callee := Callee.value (Operand.func 65), args := #[Operand.tmp 57, Operand.tmp 60, Operand.tmp 61], argTypes := #[40, 5, 117] }, type := 120, pos := "ref.go:231", after := #[{ on := 0, ground := Ground.data }, { on := 3, ground := Ground.data }, { on := 4, ground := Ground.data }], guard := none }) rfl (fun K hK => ?_) (AllReadyH.cons (o := { dst := some 11, op := Op.alloc 40, type := 0, pos := "ref.go:231", after := #[], guard := none }) rfl (fun K hK => ?_) AllReadyH.nil)
            · go_simp
              go_at_call 65
              refine (TK.out _ (by (repeat' first | (with_reducible exact DV) | (with_reducible exact Below.refl _ _) | (with_reducible refine Below.drew ?_) | (with_reducible refine Below.setCell ?_ ?_ _) | (with_reducible refine Below.alloc ?_ ?_ _) | exact DV.size | exact HZ.out.1 | exact HZ.out.2.1 | exact Nat.le_refl _ | (simp; done) | (have := DV.size; simp; omega) | (simp; omega)))).mono ?_
              rintro e w5 ⟨a6, g6, Q6, c6, G6, d6, od, ha6, hs6, ho6, rfl, b5, hr6, hq6, hn6, hg6⟩
              have hX8 : (wr.alloc (.cells #[.slice none 0 0, .int .i64 0, .bool false] 117)).drew.heap.size = wr.heap.size + 1 := by show (wr.alloc (.cells #[.slice none 0 0, .int .i64 0, .bool false] 117)).heap.size = _; simp
              have b5 : Below (wr.alloc (.cells #[.slice none 0 0, .int .i64 0, .bool false] 117)).drew.heap.size (wr.alloc (.cells #[.slice none 0 0, .int .i64 0, .bool false] 117)).drew w5 := b5
              have H := Lib.hid (H.out.step (below_next ((Below.refl (wr.alloc (.cells #[.slice none 0 0, .int .i64 0, .bool false] 117)).heap.size (wr.alloc (.cells #[.slice none 0 0, .int .i64 0, .bool false] 117))).drew) b5))
              have DV := H.out.1
              have OR := Lib.hid (own8 (X := (wr.alloc (.cells #[.slice none 0 0, .int .i64 0, .bool false] 117)).drew) (p := p) (q := 8) (by omega) HSZ8.out.2 DV hr6 hq6 (fun h => by rw [← HST8.out]; exact Rp.Sg.rstep_rows σ p h) HLD.out.2.2.2.2.1)
              have OP := Lib.hid (own8 (X := (wr.alloc (.cells #[.slice none 0 0, .int .i64 0, .bool false] 117)).drew) (p := p) (q := 9) (by omega) HSZ8.out.2 DV hn6 hg6 (fun h => by rw [← HST8.out]; exact Rp.Sg.rstep_gone σ p h) HLD.out.2.2.2.2.2.1)
              have HS5 := Lib.hid (And.intro hX8 b5.size)
              have HFF := Lib.hid (And.intro ha6 (And.intro hs6 (And.intro ho6 (And.intro hq6 hg6))))
              have HV := H
              clear b5 hr6 hn6 hX8 ha6 hs6 ho6 hq6 hg6
              go_wp2_with fail
              refine hK.out _ _ ?_ (fun hHeld => ?_)
              · refine PC.out _ ?_; (repeat' first | (with_reducible exact DV) | (with_reducible exact Below.refl _ _) | (with_reducible refine Below.drew ?_) | (with_reducible refine Below.setCell ?_ ?_ _) | (with_reducible refine Below.alloc ?_ ?_ _) | exact DV.size | exact HZ.out.1 | exact HZ.out.2.1 | exact Nat.le_refl _ | (simp; done) | (have := DV.size; simp; omega) | (simp; omega))
              clear hK K
              try simp only [Act.put, List.setIfInBounds_toArray, List.set_cons_zero, List.set_cons_succ]
              refine wpAnyH_take (i := 6) (oi := { dst := some 56, op := Op.move (Operand.tmp 62), type := 120, pos := "ref.go:231", after := #[{ on := 5, ground := Ground.data }], guard := none }) (v := ?_) rfl (by kernel_rfl) (by kernel_rfl) (by kernel_rfl) (fun _ _ _ h => h) (Or.inl ⟨by rfl, ?_⟩) (by assumption) ?_
              rotate_left
              · intro W hSW; (try dsimp only at hSW); go_simp; try with_reducible rfl
              try simp only [Act.put, List.setIfInBounds_toArray, List.set_cons_zero, List.set_cons_succ]
              refine wpAnyH_take (i := 7) (oi := { dst := some 63, op := Op.extract (Operand.tmp 56) 0, type := 40, pos := "ref.go:231", after := #[{ on := 6, ground := Ground.data }], guard := none }) (v := ?_) rfl (by kernel_rfl) (by kernel_rfl) (by kernel_rfl) (fun _ _ _ h => h) (Or.inl ⟨by rfl, ?_⟩) (by assumption) ?_
              rotate_left
              · intro W hSW; (try dsimp only at hSW); go_simp; try with_reducible rfl
              try simp only [Act.put, List.setIfInBounds_toArray, List.set_cons_zero, List.set_cons_succ]
              refine wpAnyH_take (i := 8) (oi := { dst := some 64, op := Op.extract (Operand.tmp 56) 1, type := 117, pos := "ref.go:231", after := #[{ on := 6, ground := Ground.data }, { on := 12, ground := Ground.gcOnly Departure.lateStores }], guard := none }) (v := ?_) rfl (by kernel_rfl) (by kernel_rfl) (by kernel_rfl) (fun _ _ _ h => h) (Or.inl ⟨by rfl, ?_⟩) (by assumption) ?_
              rotate_left
              · intro W hSW; (try dsimp only at hSW); go_simp; try with_reducible rfl
              try simp only [Act.put, List.setIfInBounds_toArray, List.set_cons_zero, List.set_cons_succ]
              refine wpAnyH_take (i := 9) (oi := { dst := some 65, op := Op.extract (Operand.tmp 56) 2, type := 4, pos := "ref.go:231", after := #[{ on := 6, ground := Ground.data }, { on := 13, ground := Ground.gcOnly Departure.lateStores }], guard := none }) (v := ?_) rfl (by kernel_rfl) (by kernel_rfl) (by kernel_rfl) (fun _ _ _ h => h) (Or.inl ⟨by rfl, ?_⟩) (by assumption) ?_
              rotate_left
              · intro W hSW; (try dsimp only at hSW); go_simp; try with_reducible rfl
              try simp only [Act.put, List.setIfInBounds_toArray, List.set_cons_zero, List.set_cons_succ]
              refine wpAnyH_ready (rs := [10]) (by kernel_rfl) (by simp) ?_
              refine AllReadyH.cons (o := { dst := some 11, op := Op.alloc 40, type := 0, pos := "ref.go:231", after := #[], guard := none }) rfl (fun K hK => ?_) AllReadyH.nil
              go_simp
              go_wp2_with fail
              refine hK.out _ _ ?_ (fun hHeld => ?_)
              · refine PC.out _ ?_; (repeat' first | (with_reducible exact DV) | (with_reducible exact Below.refl _ _) | (with_reducible refine Below.drew ?_) | (with_reducible refine Below.setCell ?_ ?_ _) | (with_reducible refine Below.alloc ?_ ?_ _) | exact DV.size | exact HZ.out.1 | exact HZ.out.2.1 | exact Nat.le_refl _ | (simp; done) | (have := DV.size; simp; omega) | (simp; omega))
              clear hK K
              try simp only [Act.put, List.setIfInBounds_toArray, List.set_cons_zero, List.set_cons_succ]
              have H := Lib.hid (H.out.new #[.int .u8 0, .int .u32 0, .int .u16 0, .bool false, .int .u64 0, .int .u64 0, .int .u64 0, .int .u64 0, .int .u64 0, .int .u64 0, .slice none 0 0, .slice none 0 0] 40)
              refine wpAnyH_ready (rs := [12]) (by kernel_rfl) (by simp) ?_
              refine AllReadyH.cons (o := { dst := none, op := Op.store 40 (Operand.tmp 11) (Operand.tmp 63), type := 0, pos := "ref.go:231", after := #[{ on := 10, ground := Ground.data }, { on := 7, ground := Ground.data }, { on := 5, ground := Ground.chain }, { on := 0, ground := Ground.phase }, { on := 1, ground := Ground.phase }, { on := 2, ground := Ground.phase }, { on := 3, ground := Ground.phase }, { on := 4, ground := Ground.phase }, { on := 5, ground := Ground.phase }, { on := 6, ground := Ground.phase }, { on := 7, ground := Ground.phase }, { on := 8, ground := Ground.textOnly Departure.lateStores }, { on := 9, ground := Ground.textOnly Departure.lateStores }, { on := 10, ground := Ground.phase }, { on := 11, ground := Ground.phase }], guard := none }) rfl (fun K hK => ?_) AllReadyH.nil
              have HZ : Hid (wr.heap.size ≤ (w5.heap.size) ∧ wr.heap.size ≤ (wr.heap.size) ∧ (w5.heap.size) ≠ (wr.heap.size) ∧ (wr.heap.size) ≠ (w5.heap.size)) := Lib.hid (by have s1 := HS5.out; (refine ⟨?_, ?_, ?_, ?_⟩) <;> (first | omega | (simp; done) | (simp; omega)))
              have ka := H.out.2 _ (List.mem_cons_self ..)
              have a0 := ka.cell 0
              have a1 := ka.cell 1
              have a2 := ka.cell 2
              have a3 := ka.cell 3
              have a4 := ka.cell 4
              have a5 := ka.cell 5
              have a6 := ka.cell 6
              have a7 := ka.cell 7
              have a8 := ka.cell 8
              have a9 := ka.cell 9
              have a10 := ka.cell 10
              have a11 := ka.cell 11
              have af := fun o => ka.frozen o
              have kb := H.out.2 _ (List.mem_cons_of_mem _ (List.mem_cons_self ..))
              have b0 := kb.cell 0
              have b1 := kb.cell 1
              have b2 := kb.cell 2
              have bf := fun o => kb.frozen o
              go_simp
              go_wp2_with fail
              refine hK.out _ _ ?_ (fun hHeld => ?_)
              · refine PC.out _ ?_; (repeat' first | (with_reducible exact DV) | (with_reducible exact Below.refl _ _) | (with_reducible refine Below.drew ?_) | (with_reducible refine Below.setCell ?_ ?_ _) | (with_reducible refine Below.alloc ?_ ?_ _) | exact DV.size | exact HZ.out.1 | exact HZ.out.2.1 | exact Nat.le_refl _ | (simp; done) | (have := DV.size; simp; omega) | (simp; omega))
              clear hK K
              try simp only [Act.put, List.setIfInBounds_toArray, List.set_cons_zero, List.set_cons_succ]
              clear ka kb af bf a0 a1 a2 a3 a4 a5 a6 a7 a8 a9 a10 a11 b0 b1 b2
              have H := Lib.hid (HV.out.new #[.int .u8 (τ.x.k : Int), .int .u32 (τ.x.id : Int), .int .u16 (τ.x.code : Int), .bool τ.x.last, .int .u64 (τ.x.ep : Int), .int .u64 (τ.x.fl : Int), .int .u64 (τ.x.un : Int), .int .u64 (τ.x.le : Int), .int .u64 (τ.x.st : Int), .int .u64 (τ.x.ti : Int), .slice Q6 τ.x.n c6, .slice G6 τ.x.m d6] 40)
              refine wpAnyH_ready (rs := [13]) (by kernel_rfl) (by simp) ?_
              refine AllReadyH.cons (o := { dst := none, op := Op.store 117 (Operand.tmp 12) (Operand.tmp 64), type := 0, pos := "ref.go:231", after := #[{ on := 11, ground := Ground.data }, { on := 8, ground := Ground.data }, { on := 12, ground := Ground.chain }, { on := 0, ground := Ground.phase }, { on := 1, ground := Ground.phase }, { on := 2, ground := Ground.phase }, { on := 3, ground := Ground.phase }, { on := 4, ground := Ground.phase }, { on := 5, ground := Ground.phase }, { on := 6, ground := Ground.phase }, { on := 7, ground := Ground.phase }, { on := 8, ground := Ground.phase }, { on := 9, ground := Ground.textOnly Departure.lateStores }, { on := 10, ground := Ground.phase }, { on := 11, ground := Ground.phase }, { on := 12, ground := Ground.phase }], guard := none }) rfl (fun K hK => ?_) AllReadyH.nil
              have ka := H.out.2 _ (List.mem_cons_self ..)
              have a0 := ka.cell 0
              have a1 := ka.cell 1
              have a2 := ka.cell 2
              have a3 := ka.cell 3
              have a4 := ka.cell 4
              have a5 := ka.cell 5
              have a6 := ka.cell 6
              have a7 := ka.cell 7
              have a8 := ka.cell 8
              have a9 := ka.cell 9
              have a10 := ka.cell 10
              have a11 := ka.cell 11
              have af := fun o => ka.frozen o
              have kb := H.out.2 _ (List.mem_cons_of_mem _ (List.mem_cons_self ..))
              have b0 := kb.cell 0
              have b1 := kb.cell 1
              have b2 := kb.cell 2
              have bf := fun o => kb.frozen o
              go_simp
              go_wp2_with fail
              refine hK.out _ _ ?_ (fun hHeld => ?_)
              · refine PC.out _ ?_; (repeat' first | (with_reducible exact DV) | (with_reducible exact Below.refl _ _) | (with_reducible refine Below.drew ?_) | (with_reducible refine Below.setCell ?_ ?_ _) | (with_reducible refine Below.alloc ?_ ?_ _) | exact DV.size | exact HZ.out.1 | exact HZ.out.2.1 | exact Nat.le_refl _ | (simp; done) | (have := DV.size; simp; omega) | (simp; omega))
              clear hK K
              try simp only [Act.put, List.setIfInBounds_toArray, List.set_cons_zero, List.set_cons_succ]
              clear ka kb af bf a0 a1 a2 a3 a4 a5 a6 a7 a8 a9 a10 a11 b0 b1 b2
              have H := Lib.hid ((H.out.swap8).three8 HZ.out.2.1 (ne8 HZ.out.2.2.2) (.slice (some ⟨bb, off, none⟩) n c) (.int .i64 (a6 : Int)) (.bool g6))
              refine wpAnyH_take (i := 14) (oi := { dst := some 13, op := Op.assign (Operand.tmp 65), type := 4, pos := "ref.go:231", after := #[{ on := 9, ground := Ground.data }, { on := 13, ground := Ground.chain }, { on := 0, ground := Ground.phase }, { on := 1, ground := Ground.phase }, { on := 2, ground := Ground.phase }, { on := 3, ground := Ground.phase }, { on := 4, ground := Ground.phase }, { on := 5, ground := Ground.phase }, { on := 6, ground := Ground.phase }, { on := 7, ground := Ground.phase }, { on := 8, ground := Ground.phase }, { on := 9, ground := Ground.phase }, { on := 10, ground := Ground.phase }, { on := 11, ground := Ground.phase }, { on := 12, ground := Ground.phase }, { on := 13, ground := Ground.phase }], guard := none }) (v := ?_) rfl (by kernel_rfl) (by kernel_rfl) (by kernel_rfl) (fun _ _ _ h => h) (Or.inl ⟨by rfl, ?_⟩) (by assumption) ?_
              rotate_left
              · intro W hSW; (try dsimp only at hSW); go_simp; try with_reducible rfl
              try simp only [Act.put, List.setIfInBounds_toArray, List.set_cons_zero, List.set_cons_succ]
              refine wpAnyH_done (by kernel_rfl) ?_ _
              go_wp2_with fail
              go_meet
              exact ⟨(w5.heap.size), (wr.heap.size), a6, g6, Q6, c6, G6, d6, od, rfl, rfl, rfl, HFF.out.1, HFF.out.2.1, HFF.out.2.2.1, H.out.swap8, ⟨HZ.out.1, HZ.out.2.1⟩, own_keep2 OR.out.1 (((((Keep2.refl w5 (w5.heap.size) (wr.heap.size)).alloc _).set (.inr rfl) 0 _).set (.inr rfl) 1 _).set (.inr rfl) 2 _) (fun k hk => by have h := OR.out.2 k hk; have s1 := HS5.out; omega), own_keep2 OP.out.1 (((((Keep2.refl w5 (w5.heap.size) (wr.heap.size)).alloc _).set (.inr rfl) 0 _).set (.inr rfl) 1 _).set (.inr rfl) 2 _) (fun k hk => by have h := OP.out.2 k hk; have s1 := HS5.out; omega), HFF.out.2.2.2.1, HFF.out.2.2.2.2⟩
            · go_simp
              go_wp2_with fail
              refine hK.out _ _ ?_ (fun hHeld => ?_)
              · refine PC.out _ ?_; (repeat' first | (with_reducible exact DV) | (with_reducible exact Below.refl _ _) | (with_reducible refine Below.drew ?_) | (with_reducible refine Below.setCell ?_ ?_ _) | (with_reducible refine Below.alloc ?_ ?_ _) | exact DV.size | exact HZ.out.1 | exact HZ.out.2.1 | exact Nat.le_refl _ | (simp; done) | (have := DV.size; simp; omega) | (simp; omega))
              clear hK K
              try simp only [Act.put, List.setIfInBounds_toArray, List.set_cons_zero, List.set_cons_succ]
              have H := Lib.hid (H.out.new #[.int .u8 0, .int .u32 0, .int .u16 0, .bool false, .int .u64 0, .int .u64 0, .int .u64 0, .int .u64 0, .int .u64 0, .int .u64 0, .slice none 0 0, .slice none 0 0] 40)
              rw [show (wr.alloc (.cells #[.slice none 0 0, .int .i64 0, .bool false] 117)).heap.size = wr.heap.size + 1 by simp] at H
              refine wpAnyH_ready (rs := [5]) (by kernel_rfl) (by simp) ?_
              refine AllReadyH.cons (o := { dst := some 62, op := Op.call { callee := Callee.value (Operand.func 65), args := #[Operand.tmp 57, Operand.tmp 60, Operand.tmp 61], argTypes := #[40, 5, 117] }, type := 120, pos := "ref.go:231", after := #[{ on := 0, ground := Ground.data }, { on := 3, ground := Ground.data }, { on := 4, ground := Ground.data }], guard := none }) rfl (fun K hK => ?_) AllReadyH.nil
              go_simp
              go_at_call 65
              refine (TK.out _ (by (repeat' first | (with_reducible exact DV) | (with_reducible exact Below.refl _ _) | (with_reducible refine Below.drew ?_) | (with_reducible refine Below.setCell ?_ ?_ _) | (with_reducible refine Below.alloc ?_ ?_ _) | exact DV.size | exact HZ.out.1 | exact HZ.out.2.1 | exact Nat.le_refl _ | (simp; done) | (have := DV.size; simp; omega) | (simp; omega)))).mono ?_
              rintro e w5 ⟨a6, g6, Q6, c6, G6, d6, od, ha6, hs6, ho6, rfl, b5, hr6, hq6, hn6, hg6⟩
              have hX8 : ((wr.alloc (.cells #[.slice none 0 0, .int .i64 0, .bool false] 117)).alloc (.cells #[.int .u8 0, .int .u32 0, .int .u16 0, .bool false, .int .u64 0, .int .u64 0, .int .u64 0, .int .u64 0, .int .u64 0, .int .u64 0, .slice none 0 0, .slice none 0 0] 40)).drew.heap.size = wr.heap.size + 2 := by show ((wr.alloc (.cells #[.slice none 0 0, .int .i64 0, .bool false] 117)).alloc (.cells #[.int .u8 0, .int .u32 0, .int .u16 0, .bool false, .int .u64 0, .int .u64 0, .int .u64 0, .int .u64 0, .int .u64 0, .int .u64 0, .slice none 0 0, .slice none 0 0] 40)).heap.size = _; simp
              have b5 : Below ((wr.alloc (.cells #[.slice none 0 0, .int .i64 0, .bool false] 117)).alloc (.cells #[.int .u8 0, .int .u32 0, .int .u16 0, .bool false, .int .u64 0, .int .u64 0, .int .u64 0, .int .u64 0, .int .u64 0, .int .u64 0, .slice none 0 0, .slice none 0 0] 40)).drew.heap.size ((wr.alloc (.cells #[.slice none 0 0, .int .i64 0, .bool false] 117)).alloc (.cells #[.int .u8 0, .int .u32 0, .int .u16 0, .bool false, .int .u64 0, .int .u64 0, .int .u64 0, .int .u64 0, .int .u64 0, .int .u64 0, .slice none 0 0, .slice none 0 0] 40)).drew w5 := b5
              have H := Lib.hid (H.out.step (below_next ((Below.refl ((wr.alloc (.cells #[.slice none 0 0, .int .i64 0, .bool false] 117)).alloc (.cells #[.int .u8 0, .int .u32 0, .int .u16 0, .bool false, .int .u64 0, .int .u64 0, .int .u64 0, .int .u64 0, .int .u64 0, .int .u64 0, .slice none 0 0, .slice none 0 0] 40)).heap.size ((wr.alloc (.cells #[.slice none 0 0, .int .i64 0, .bool false] 117)).alloc (.cells #[.int .u8 0, .int .u32 0, .int .u16 0, .bool false, .int .u64 0, .int .u64 0, .int .u64 0, .int .u64 0, .int .u64 0, .int .u64 0, .slice none 0 0, .slice none 0 0] 40))).drew) b5))
              have DV := H.out.1
              have OR := Lib.hid (own8 (X := ((wr.alloc (.cells #[.slice none 0 0, .int .i64 0, .bool false] 117)).alloc (.cells #[.int .u8 0, .int .u32 0, .int .u16 0, .bool false, .int .u64 0, .int .u64 0, .int .u64 0, .int .u64 0, .int .u64 0, .int .u64 0, .slice none 0 0, .slice none 0 0] 40)).drew) (p := p) (q := 8) (by omega) HSZ8.out.2 DV hr6 hq6 (fun h => by rw [← HST8.out]; exact Rp.Sg.rstep_rows σ p h) HLD.out.2.2.2.2.1)
              have OP := Lib.hid (own8 (X := ((wr.alloc (.cells #[.slice none 0 0, .int .i64 0, .bool false] 117)).alloc (.cells #[.int .u8 0, .int .u32 0, .int .u16 0, .bool false, .int .u64 0, .int .u64 0, .int .u64 0, .int .u64 0, .int .u64 0, .int .u64 0, .slice none 0 0, .slice none 0 0] 40)).drew) (p := p) (q := 9) (by omega) HSZ8.out.2 DV hn6 hg6 (fun h => by rw [← HST8.out]; exact Rp.Sg.rstep_gone σ p h) HLD.out.2.2.2.2.2.1)
              have HS5 := Lib.hid (And.intro hX8 b5.size)
              have HFF := Lib.hid (And.intro ha6 (And.intro hs6 (And.intro ho6 (And.intro hq6 hg6))))
              have HV := H
              clear b5 hr6 hn6 hX8 ha6 hs6 ho6 hq6 hg6
              go_wp2_with fail
              refine hK.out _ _ ?_ (fun hHeld => ?_)
              · refine PC.out _ ?_; (repeat' first | (with_reducible exact DV) | (with_reducible exact Below.refl _ _) | (with_reducible refine Below.drew ?_) | (with_reducible refine Below.setCell ?_ ?_ _) | (with_reducible refine Below.alloc ?_ ?_ _) | exact DV.size | exact HZ.out.1 | exact HZ.out.2.1 | exact Nat.le_refl _ | (simp; done) | (have := DV.size; simp; omega) | (simp; omega))
              clear hK K
              try simp only [Act.put, List.setIfInBounds_toArray, List.set_cons_zero, List.set_cons_succ]
              refine wpAnyH_take (i := 6) (oi := { dst := some 56, op := Op.move (Operand.tmp 62), type := 120, pos := "ref.go:231", after := #[{ on := 5, ground := Ground.data }], guard := none }) (v := ?_) rfl (by kernel_rfl) (by kernel_rfl) (by kernel_rfl) (fun _ _ _ h => h) (Or.inl ⟨by rfl, ?_⟩) (by assumption) ?_
              rotate_left
              · intro W hSW; (try dsimp only at hSW); go_simp; try with_reducible rfl
              try simp only [Act.put, List.setIfInBounds_toArray, List.set_cons_zero, List.set_cons_succ]
              refine wpAnyH_take (i := 7) (oi := { dst := some 63, op := Op.extract (Operand.tmp 56) 0, type := 40, pos := "ref.go:231", after := #[{ on := 6, ground := Ground.data }], guard := none }) (v := ?_) rfl (by kernel_rfl) (by kernel_rfl) (by kernel_rfl) (fun _ _ _ h => h) (Or.inl ⟨by rfl, ?_⟩) (by assumption) ?_
              rotate_left
              · intro W hSW; (try dsimp only at hSW); go_simp; try with_reducible rfl
              try simp only [Act.put, List.setIfInBounds_toArray, List.set_cons_zero, List.set_cons_succ]
              refine wpAnyH_take (i := 8) (oi := { dst := some 64, op := Op.extract (Operand.tmp 56) 1, type := 117, pos := "ref.go:231", after := #[{ on := 6, ground := Ground.data }, { on := 12, ground := Ground.gcOnly Departure.lateStores }], guard := none }) (v := ?_) rfl (by kernel_rfl) (by kernel_rfl) (by kernel_rfl) (fun _ _ _ h => h) (Or.inl ⟨by rfl, ?_⟩) (by assumption) ?_
              rotate_left
              · intro W hSW; (try dsimp only at hSW); go_simp; try with_reducible rfl
              try simp only [Act.put, List.setIfInBounds_toArray, List.set_cons_zero, List.set_cons_succ]
              refine wpAnyH_take (i := 9) (oi := { dst := some 65, op := Op.extract (Operand.tmp 56) 2, type := 4, pos := "ref.go:231", after := #[{ on := 6, ground := Ground.data }, { on := 13, ground := Ground.gcOnly Departure.lateStores }], guard := none }) (v := ?_) rfl (by kernel_rfl) (by kernel_rfl) (by kernel_rfl) (fun _ _ _ h => h) (Or.inl ⟨by rfl, ?_⟩) (by assumption) ?_
              rotate_left
              · intro W hSW; (try dsimp only at hSW); go_simp; try with_reducible rfl
              try simp only [Act.put, List.setIfInBounds_toArray, List.set_cons_zero, List.set_cons_succ]
              refine wpAnyH_ready (rs := [12]) (by kernel_rfl) (by simp) ?_
              refine AllReadyH.cons (o := { dst := none, op := Op.store 40 (Operand.tmp 11) (Operand.tmp 63), type := 0, pos := "ref.go:231", after := #[{ on := 10, ground := Ground.data }, { on := 7, ground := Ground.data }, { on := 5, ground := Ground.chain }, { on := 0, ground := Ground.phase }, { on := 1, ground := Ground.phase }, { on := 2, ground := Ground.phase }, { on := 3, ground := Ground.phase }, { on := 4, ground := Ground.phase }, { on := 5, ground := Ground.phase }, { on := 6, ground := Ground.phase }, { on := 7, ground := Ground.phase }, { on := 8, ground := Ground.textOnly Departure.lateStores }, { on := 9, ground := Ground.textOnly Departure.lateStores }, { on := 10, ground := Ground.phase }, { on := 11, ground := Ground.phase }], guard := none }) rfl (fun K hK => ?_) AllReadyH.nil
              have HZ : Hid (wr.heap.size ≤ (wr.heap.size + 1) ∧ wr.heap.size ≤ (wr.heap.size) ∧ (wr.heap.size + 1) ≠ (wr.heap.size) ∧ (wr.heap.size) ≠ (wr.heap.size + 1)) := Lib.hid (by have s1 := HS5.out; (refine ⟨?_, ?_, ?_, ?_⟩) <;> (first | omega | (simp; done) | (simp; omega)))
              have ka := H.out.2 _ (List.mem_cons_self ..)
              have a0 := ka.cell 0
              have a1 := ka.cell 1
              have a2 := ka.cell 2
              have a3 := ka.cell 3
              have a4 := ka.cell 4
              have a5 := ka.cell 5
              have a6 := ka.cell 6
              have a7 := ka.cell 7
              have a8 := ka.cell 8
              have a9 := ka.cell 9
              have a10 := ka.cell 10
              have a11 := ka.cell 11
              have af := fun o => ka.frozen o
              have kb := H.out.2 _ (List.mem_cons_of_mem _ (List.mem_cons_self ..))
              have b0 := kb.cell 0
              have b1 := kb.cell 1
              have b2 := kb.cell 2
              have bf := fun o => kb.frozen o
              go_simp
              go_wp2_with fail
              refine hK.out _ _ ?_ (fun hHeld => ?_)
              · refine PC.out _ ?_; (repeat' first | (with_reducible exact DV) | (with_reducible exact Below.refl _ _) | (with_reducible refine Below.drew ?_) | (with_reducible refine Below.setCell ?_ ?_ _) | (with_reducible refine Below.alloc ?_ ?_ _) | exact DV.size | exact HZ.out.1 | exact HZ.out.2.1 | exact Nat.le_refl _ | (simp; done) | (have := DV.size; simp; omega) | (simp; omega))
              clear hK K
              try simp only [Act.put, List.setIfInBounds_toArray, List.set_cons_zero, List.set_cons_succ]
              clear ka kb af bf a0 a1 a2 a3 a4 a5 a6 a7 a8 a9 a10 a11 b0 b1 b2
              have H := Lib.hid ((H.out).twelve8 HZ.out.1 (ne8 HZ.out.2.2.1) (.int .u8 (τ.x.k : Int)) (.int .u32 (τ.x.id : Int)) (.int .u16 (τ.x.code : Int)) (.bool τ.x.last) (.int .u64 (τ.x.ep : Int)) (.int .u64 (τ.x.fl : Int)) (.int .u64 (τ.x.un : Int)) (.int .u64 (τ.x.le : Int)) (.int .u64 (τ.x.st : Int)) (.int .u64 (τ.x.ti : Int)) (.slice Q6 τ.x.n c6) (.slice G6 τ.x.m d6))
              refine wpAnyH_ready (rs := [13]) (by kernel_rfl) (by simp) ?_
              refine AllReadyH.cons (o := { dst := none, op := Op.store 117 (Operand.tmp 12) (Operand.tmp 64), type := 0, pos := "ref.go:231", after := #[{ on := 11, ground := Ground.data }, { on := 8, ground := Ground.data }, { on := 12, ground := Ground.chain }, { on := 0, ground := Ground.phase }, { on := 1, ground := Ground.phase }, { on := 2, ground := Ground.phase }, { on := 3, ground := Ground.phase }, { on := 4, ground := Ground.phase }, { on := 5, ground := Ground.phase }, { on := 6, ground := Ground.phase }, { on := 7, ground := Ground.phase }, { on := 8, ground := Ground.phase }, { on := 9, ground := Ground.textOnly Departure.lateStores }, { on := 10, ground := Ground.phase }, { on := 11, ground := Ground.phase }, { on := 12, ground := Ground.phase }], guard := none }) rfl (fun K hK => ?_) AllReadyH.nil
              have ka := H.out.2 _ (List.mem_cons_self ..)
              have a0 := ka.cell 0
              have a1 := ka.cell 1
              have a2 := ka.cell 2
              have a3 := ka.cell 3
              have a4 := ka.cell 4
              have a5 := ka.cell 5
              have a6 := ka.cell 6
              have a7 := ka.cell 7
              have a8 := ka.cell 8
              have a9 := ka.cell 9
              have a10 := ka.cell 10
              have a11 := ka.cell 11
              have af := fun o => ka.frozen o
              have kb := H.out.2 _ (List.mem_cons_of_mem _ (List.mem_cons_self ..))
              have b0 := kb.cell 0
              have b1 := kb.cell 1
              have b2 := kb.cell 2
              have bf := fun o => kb.frozen o
              go_simp
              go_wp2_with fail
              refine hK.out _ _ ?_ (fun hHeld => ?_)
              · refine PC.out _ ?_; (repeat' first | (with_reducible exact DV) | (with_reducible exact Below.refl _ _) | (with_reducible refine Below.drew ?_) | (with_reducible refine Below.setCell ?_ ?_ _) | (with_reducible refine Below.alloc ?_ ?_ _) | exact DV.size | exact HZ.out.1 | exact HZ.out.2.1 | exact Nat.le_refl _ | (simp; done) | (have := DV.size; simp; omega) | (simp; omega))
              clear hK K
              try simp only [Act.put, List.setIfInBounds_toArray, List.set_cons_zero, List.set_cons_succ]
              clear ka kb af bf a0 a1 a2 a3 a4 a5 a6 a7 a8 a9 a10 a11 b0 b1 b2
              have H := Lib.hid ((H.out.swap8).three8 HZ.out.2.1 (ne8 HZ.out.2.2.2) (.slice (some ⟨bb, off, none⟩) n c) (.int .i64 (a6 : Int)) (.bool g6))
              refine wpAnyH_take (i := 14) (oi := { dst := some 13, op := Op.assign (Operand.tmp 65), type := 4, pos := "ref.go:231", after := #[{ on := 9, ground := Ground.data }, { on := 13, ground := Ground.chain }, { on := 0, ground := Ground.phase }, { on := 1, ground := Ground.phase }, { on := 2, ground := Ground.phase }, { on := 3, ground := Ground.phase }, { on := 4, ground := Ground.phase }, { on := 5, ground := Ground.phase }, { on := 6, ground := Ground.phase }, { on := 7, ground := Ground.phase }, { on := 8, ground := Ground.phase }, { on := 9, ground := Ground.phase }, { on := 10, ground := Ground.phase }, { on := 11, ground := Ground.phase }, { on := 12, ground := Ground.phase }, { on := 13, ground := Ground.phase }], guard := none }) (v := ?_) rfl (by kernel_rfl) (by kernel_rfl) (by kernel_rfl) (fun _ _ _ h => h) (Or.inl ⟨by rfl, ?_⟩) (by assumption) ?_
              rotate_left
              · intro W hSW; (try dsimp only at hSW); go_simp; try with_reducible rfl
              try simp only [Act.put, List.setIfInBounds_toArray, List.set_cons_zero, List.set_cons_succ]
              refine wpAnyH_done (by kernel_rfl) ?_ _
              go_wp2_with fail
              go_meet
              exact ⟨(wr.heap.size + 1), (wr.heap.size), a6, g6, Q6, c6, G6, d6, od, rfl, rfl, rfl, HFF.out.1, HFF.out.2.1, HFF.out.2.2.1, H.out.swap8, ⟨HZ.out.1, HZ.out.2.1⟩, own_keep2 OR.out.1 ((((((((((((((((Keep2.refl w5 (wr.heap.size + 1) (wr.heap.size)).set (.inl rfl) 0 _).set (.inl rfl) 1 _).set (.inl rfl) 2 _).set (.inl rfl) 3 _).set (.inl rfl) 4 _).set (.inl rfl) 5 _).set (.inl rfl) 6 _).set (.inl rfl) 7 _).set (.inl rfl) 8 _).set (.inl rfl) 9 _).set (.inl rfl) 10 _).set (.inl rfl) 11 _).set (.inr rfl) 0 _).set (.inr rfl) 1 _).set (.inr rfl) 2 _) (fun k hk => by have h := OR.out.2 k hk; have s1 := HS5.out; omega), own_keep2 OP.out.1 ((((((((((((((((Keep2.refl w5 (wr.heap.size + 1) (wr.heap.size)).set (.inl rfl) 0 _).set (.inl rfl) 1 _).set (.inl rfl) 2 _).set (.inl rfl) 3 _).set (.inl rfl) 4 _).set (.inl rfl) 5 _).set (.inl rfl) 6 _).set (.inl rfl) 7 _).set (.inl rfl) 8 _).set (.inl rfl) 9 _).set (.inl rfl) 10 _).set (.inl rfl) 11 _).set (.inr rfl) 0 _).set (.inr rfl) 1 _).set (.inr rfl) 2 _) (fun k hk => by have h := OP.out.2 k hk; have s1 := HS5.out; omega), HFF.out.2.2.2.1, HFF.out.2.2.2.2⟩
      case rest =>
      obtain ⟨g1, g2, a6, g6, Q6, c6, G6, d6, od, rfl, rfl, rfl, ha6, hs6, ho6, hh, hg12, hrw6, hpn6, hq6, hg6⟩ := hcut
      have hold := HLD.out.2.2.2.1.step hh.1
      have h4 : Held W1 wc [(w3.heap.size, 40, #[.int .u8 (σ.x.k : Int), .int .u32 (σ.x.id : Int), .int .u16 (σ.x.code : Int), .bool σ.x.last, .int .u64 (σ.x.ep : Int), .int .u64 (σ.x.fl : Int), .int .u64 (σ.x.un : Int), .int .u64 (σ.x.le : Int), .int .u64 (σ.x.st : Int), .int .u64 (σ.x.ti : Int), .slice Q σ.x.n c1, .slice G σ.x.m d]), (w2.heap.size, 117, #[.slice (some ⟨bb, off, none⟩) n c, .int .i64 (a5 : Int), .bool g5]), (g1, 40, #[.int .u8 (τ.x.k : Int), .int .u32 (τ.x.id : Int), .int .u16 (τ.x.code : Int), .bool τ.x.last, .int .u64 (τ.x.ep : Int), .int .u64 (τ.x.fl : Int), .int .u64 (τ.x.un : Int), .int .u64 (τ.x.le : Int), .int .u64 (τ.x.st : Int), .int .u64 (τ.x.ti : Int), .slice Q6 τ.x.n c6, .slice G6 τ.x.m d6]), (g2, 117, #[.slice (some ⟨bb, off, none⟩) n c, .int .i64 (a6 : Int), .bool g6])] := ⟨hold.1, fun x hx => by
        simp only [List.mem_cons, List.not_mem_nil, or_false] at hx
        rcases hx with rfl | rfl | rfl | rfl
        · exact hold.2 _ (List.mem_cons_of_mem _ (List.mem_cons_self ..))
        · exact hold.2 _ (List.mem_cons_self ..)
        · exact hh.2 _ (List.mem_cons_self ..)
        · exact hh.2 _ (List.mem_cons_of_mem _ (List.mem_cons_self ..))⟩
      have HN4 := Lib.hid (show (W1.heap.size ≤ w2.heap.size ∧ W1.heap.size ≤ w3.heap.size) ∧ w2.heap.size < w3.heap.size ∧ w3.heap.size < g1 ∧ w3.heap.size < g2 from ⟨⟨by omega, by omega⟩, by omega, by have := HSZ8.out; omega, by have := HSZ8.out; omega⟩)
      have H4 := Lib.hid h4
      have HF6 := Lib.hid (And.intro ha6 (And.intro hs6 (And.intro ho6 (And.intro hrw6 (And.intro hpn6 (And.intro hq6 hg6))))))
      have kp := h4.2 _ (List.mem_cons_self ..)
      have kg := h4.2 _ (List.mem_cons_of_mem _ (List.mem_cons_of_mem _ (List.mem_cons_self ..)))
      have p0 := kp.cell 0
      have p1 := kp.cell 1
      have p2 := kp.cell 2
      have p3 := kp.cell 3
      have p4 := kp.cell 4
      have p5 := kp.cell 5
      have p6 := kp.cell 6
      have p7 := kp.cell 7
      have p8 := kp.cell 8
      have p9 := kp.cell 9
      have p10 := kp.cell 10
      have p11 := kp.cell 11
      have q0 := kg.cell 0
      have q1 := kg.cell 1
      have q2 := kg.cell 2
      have q3 := kg.cell 3
      have q4 := kg.cell 4
      have q5 := kg.cell 5
      have q6 := kg.cell 6
      have q7 := kg.cell 7
      have q8 := kg.cell 8
      have q9 := kg.cell 9
      have q10 := kg.cell 10
      have q11 := kg.cell 11
      have pf := fun o => kp.frozen o
      clear kp kg hh h4 hold hg12 ha6 hs6 ho6 hrw6 hpn6 hq6 hg6
      go_upto_region 13 with (fail)
      clear p0 q0 p1 q1 p2 q2 p3 q3 p4 q4 p5 q5 p6 q6 p7 q7 p8 q8 p9 q9 p10 q10 p11 q11 pf
      have H5 := Lib.hid (H4.out.twelve8 HN4.out.1.2 (by have h := HN4.out; intro x hx; simp only [List.mem_cons, List.not_mem_nil, or_false] at hx; rcases hx with rfl | rfl | rfl <;> (dsimp only; omega)) (.int .u8 (τ.x.k : Int)) (.int .u32 (τ.x.id : Int)) (.int .u16 (τ.x.code : Int)) (.bool τ.x.last) (.int .u64 (τ.x.ep : Int)) (.int .u64 (τ.x.fl : Int)) (.int .u64 (τ.x.un : Int)) (.int .u64 (τ.x.le : Int)) (.int .u64 (τ.x.st : Int)) (.int .u64 (τ.x.ti : Int)) (.slice Q6 τ.x.n c6) (.slice G6 τ.x.m d6))
      have R5 := Lib.hid (And.intro (own_set8 (own_set8 (own_set8 (own_set8 (own_set8 (own_set8 (own_set8 (own_set8 (own_set8 (own_set8 (own_set8 (own_set8 HF6.out.2.2.2.1 (Nat.lt_succ_self _) 0 (.int .u8 (τ.x.k : Int))) (Nat.lt_succ_self _) 1 (.int .u32 (τ.x.id : Int))) (Nat.lt_succ_self _) 2 (.int .u16 (τ.x.code : Int))) (Nat.lt_succ_self _) 3 (.bool τ.x.last)) (Nat.lt_succ_self _) 4 (.int .u64 (τ.x.ep : Int))) (Nat.lt_succ_self _) 5 (.int .u64 (τ.x.fl : Int))) (Nat.lt_succ_self _) 6 (.int .u64 (τ.x.un : Int))) (Nat.lt_succ_self _) 7 (.int .u64 (τ.x.le : Int))) (Nat.lt_succ_self _) 8 (.int .u64 (τ.x.st : Int))) (Nat.lt_succ_self _) 9 (.int .u64 (τ.x.ti : Int))) (Nat.lt_succ_self _) 10 (.slice Q6 τ.x.n c6)) (Nat.lt_succ_self _) 11 (.slice G6 τ.x.m d6)) (own_set8 (own_set8 (own_set8 (own_set8 (own_set8 (own_set8 (own_set8 (own_set8 (own_set8 (own_set8 (own_set8 (own_set8 HF6.out.2.2.2.2.1 (Nat.lt_succ_self _) 0 (.int .u8 (τ.x.k : Int))) (Nat.lt_succ_self _) 1 (.int .u32 (τ.x.id : Int))) (Nat.lt_succ_self _) 2 (.int .u16 (τ.x.code : Int))) (Nat.lt_succ_self _) 3 (.bool τ.x.last)) (Nat.lt_succ_self _) 4 (.int .u64 (τ.x.ep : Int))) (Nat.lt_succ_self _) 5 (.int .u64 (τ.x.fl : Int))) (Nat.lt_succ_self _) 6 (.int .u64 (τ.x.un : Int))) (Nat.lt_succ_self _) 7 (.int .u64 (τ.x.le : Int))) (Nat.lt_succ_self _) 8 (.int .u64 (τ.x.st : Int))) (Nat.lt_succ_self _) 9 (.int .u64 (τ.x.ti : Int))) (Nat.lt_succ_self _) 10 (.slice Q6 τ.x.n c6)) (Nat.lt_succ_self _) 11 (.slice G6 τ.x.m d6)))
      obtain ⟨Wa, hWa⟩ : ∃ v, ((((((((((((wc.setCell ⟨w3.heap.size, 0, none⟩ (.int .u8 (τ.x.k : Int))).setCell ⟨w3.heap.size, 1, none⟩ (.int .u32 (τ.x.id : Int))).setCell ⟨w3.heap.size, 2, none⟩ (.int .u16 (τ.x.code : Int))).setCell ⟨w3.heap.size, 3, none⟩ (.bool τ.x.last)).setCell ⟨w3.heap.size, 4, none⟩ (.int .u64 (τ.x.ep : Int))).setCell ⟨w3.heap.size, 5, none⟩ (.int .u64 (τ.x.fl : Int))).setCell ⟨w3.heap.size, 6, none⟩ (.int .u64 (τ.x.un : Int))).setCell ⟨w3.heap.size, 7, none⟩ (.int .u64 (τ.x.le : Int))).setCell ⟨w3.heap.size, 8, none⟩ (.int .u64 (τ.x.st : Int))).setCell ⟨w3.heap.size, 9, none⟩ (.int .u64 (τ.x.ti : Int))).setCell ⟨w3.heap.size, 10, none⟩ (.slice Q6 τ.x.n c6)).setCell ⟨w3.heap.size, 11, none⟩ (.slice G6 τ.x.m d6)) = v := ⟨_, rfl⟩
      rw [hWa] at H5 R5 ⊢
      clear hWa
      have kr := H5.out.2 _ (List.mem_cons_of_mem _ (List.mem_cons_self ..))
      have k2 := H5.out.2 _ (List.mem_cons_of_mem _ (List.mem_cons_of_mem _ (List.mem_cons_of_mem _ (List.mem_cons_self ..))))
      have r0 := kr.cell 0
      have r1 := kr.cell 1
      have r2 := kr.cell 2
      have rf := fun o => kr.frozen o
      have s0 := k2.cell 0
      have s1 := k2.cell 1
      have s2 := k2.cell 2
      clear kr k2
      go_upto_region 14 with (fail)
      clear r0 r1 r2 rf s0 s1 s2
      have H6 := Lib.hid ((H5.out.sub8 (l' := [(w2.heap.size, 117, #[.slice (some ⟨bb, off, none⟩) n c, .int .i64 (a5 : Int), .bool g5]), (w3.heap.size, 40, #[.int .u8 (τ.x.k : Int), .int .u32 (τ.x.id : Int), .int .u16 (τ.x.code : Int), .bool τ.x.last, .int .u64 (τ.x.ep : Int), .int .u64 (τ.x.fl : Int), .int .u64 (τ.x.un : Int), .int .u64 (τ.x.le : Int), .int .u64 (τ.x.st : Int), .int .u64 (τ.x.ti : Int), .slice Q6 τ.x.n c6, .slice G6 τ.x.m d6])]) (by intro x hx; simp only [List.mem_cons, List.not_mem_nil, or_false] at hx ⊢; rcases hx with h | h <;> simp [h])).three8 HN4.out.1.1 (by have h := HN4.out; intro x hx; obtain rfl := List.mem_singleton.1 hx; dsimp only; omega) (.slice (some ⟨bb, off, none⟩) n c) (.int .i64 (a6 : Int)) (.bool g6))
      have R6 := Lib.hid (And.intro (own_set8 (own_set8 (own_set8 R5.out.1 (show w2.heap.size < w3.heap.size + 1 by have h := HN4.out; omega) 0 (.slice (some ⟨bb, off, none⟩) n c)) (show w2.heap.size < w3.heap.size + 1 by have h := HN4.out; omega) 1 (.int .i64 (a6 : Int))) (show w2.heap.size < w3.heap.size + 1 by have h := HN4.out; omega) 2 (.bool g6)) (own_set8 (own_set8 (own_set8 R5.out.2 (show w2.heap.size < w3.heap.size + 1 by have h := HN4.out; omega) 0 (.slice (some ⟨bb, off, none⟩) n c)) (show w2.heap.size < w3.heap.size + 1 by have h := HN4.out; omega) 1 (.int .i64 (a6 : Int))) (show w2.heap.size < w3.heap.size + 1 by have h := HN4.out; omega) 2 (.bool g6)))
      obtain ⟨Wb, hWb⟩ : ∃ v, ((Wa.setCell ⟨w2.heap.size, 0, none⟩ (.slice (some ⟨bb, off, none⟩) n c)).setCell ⟨w2.heap.size, 1, none⟩ (.int .i64 (a6 : Int))).setCell ⟨w2.heap.size, 2, none⟩ (.bool g6) = v := ⟨_, rfl⟩
      rw [hWb] at H6 R6 ⊢
      clear hWb
      have AT : At8 W1 Wb n c (some ⟨bb, off, none⟩) b w2.heap.size w3.heap.size (w3.heap.size + 1) kk (j + 1) τ := by
        refine ⟨a6, g6, Q6, c6, G6, d6, ?_, HF6.out.1, HF6.out.2.1, H6.out, R6.out.1, R6.out.2, fun h => ?_, fun h => ?_⟩
        · rw [List.take_succ_eq_append_getElem HPJ.out.2.1, HPJ.out.1, List.foldl_append, ← HLD.out.1]
          exact HST8.out.symm
        · rw [List.take_succ_eq_append_getElem HPJ.out.2.1, HPJ.out.1] at h
          have h8 : p ≠ 8 := fun e => h (by rw [e]; simp)
          obtain ⟨e1, e2⟩ := HF6.out.2.2.2.2.2.1 h8
          obtain ⟨f1, f2, f3⟩ := HLD.out.2.2.2.2.2.2.1 (fun hm => h (List.mem_append_left _ hm))
          exact ⟨e1.trans f1, by rw [← HST8.out, (Rp.Sg.rstep_rows σ p h8).1]; exact f2, e2.trans f3⟩
        · rw [List.take_succ_eq_append_getElem HPJ.out.2.1, HPJ.out.1] at h
          have h9 : p ≠ 9 := fun e => h (by rw [e]; simp)
          obtain ⟨e1, e2⟩ := HF6.out.2.2.2.2.2.2 h9
          obtain ⟨f1, f2, f3⟩ := HLD.out.2.2.2.2.2.2.2 (fun hm => h (List.mem_append_left _ hm))
          exact ⟨e1.trans f1, by rw [← HST8.out, (Rp.Sg.rstep_gone σ p h9).1]; exact f2, e2.trans f3⟩
      have HAT := Lib.hid AT
      clear AT
      have HOD := Lib.hid HF6.out.2.2.1
      cases hso : σ.odd
      · have e : τ.odd = od := by rw [HOD.out, hso]; rfl
        have HE := Lib.hid e
        clear e
        go_wp2_with fail
        have hjm := HJM.out
        exact ⟨⟨j + 1, τ, by omega, by go_num, by rw [HE.out], HAT.out⟩, by simp [intOf]; omega⟩
      · have e : τ.odd = true := by rw [HOD.out, hso]; rfl
        have HE := Lib.hid e
        clear e
        go_wp2_with fail
        have hjm := HJM.out
        exact ⟨⟨j + 1, τ, by omega, by go_num, by rw [HE.out], HAT.out⟩, by simp [intOf]; omega⟩
    · have i2 : ¬ (j : Int) < m := by omega
      obtain ⟨a5, g5, Q, c1, G, d, hσ, ha5, hss, hld, hrw, hpn, -, -⟩ := HT.out
      have hrf : σ = Rp.rfin b := by
        rw [hσ, List.take_of_length_le (by rw [HP.out.2.2]; omega)]
        unfold Rp.rfin
        rw [show (Rp.s0 b).x.k = kk from by rw [HK.out.2.2.2.2]]
      have hdone : (Rp.fin b).done = doneOf g5 (n - a5) := by
        rw [← Rp.rfin_done, ← hrf]
        unfold Rp.Sg.done
        rw [hss]
        show doneOf g5 (b.drop a5).length = _
        rw [List.length_drop, HLN.out]
      obtain ⟨dn, hdn⟩ : ∃ v, doneOf g5 (n - a5) = v := ⟨_, rfl⟩
      rw [hdn] at hdone
      have hFS : dn = 0 → Rp.fin b = σ := fun h0 => by rw [hrf]; exact (Rp.rfin_same b (hdone.trans h0)).symm
      have hE : Rp.pse b = if dn = 0 then (if σ.odd || !σ.x.right σ.rows σ.gone then 81 else 0) else dn := by
        have h1 : Rp.pse b = (Rp.fin b).err := if_neg (by rw [HTG.out]; decide)
        rw [h1]
        unfold Rp.Sg.err
        rw [hdone]
        by_cases h0 : dn = 0
        · rw [if_pos h0, if_pos h0, hFS h0]
        · rw [if_neg h0, if_neg h0]
      obtain ⟨rt, hrt⟩ : ∃ r, σ.x.right σ.rows σ.gone = r := ⟨_, rfl⟩
      have CRt : Hid (dn = 0 → ∀ W, Below wr.heap.size wr W → Calls Tryz.prog 20 #[.agg #[.int .u8 (σ.x.k : Int), .int .u32 (σ.x.id : Int), .int .u16 (σ.x.code : Int), .bool σ.x.last, .int .u64 (σ.x.ep : Int), .int .u64 (σ.x.fl : Int), .int .u64 (σ.x.un : Int), .int .u64 (σ.x.le : Int), .int .u64 (σ.x.st : Int), .int .u64 (σ.x.ti : Int), .slice Q σ.x.n c1, .slice G σ.x.m d]] W fun e w' => e = .returned (.bool rt) ∧ Below W.heap.size W w') := Lib.hid fun h0 W hW => by
        have hok := Rp.fin_ok HLT.out
        rw [hFS h0] at hok
        have h := refRight8_any (σ.x.at_ Q c1 G d) wr.heap.size σ.rows σ.gone W ⟨(RowsIn.of_own hrw).below hW (Nat.le_refl _), (PansIn.of_own hpn).below hW (Nat.le_refl _)⟩ hW.size (Nat.le_of_lt (Nat.lt_of_lt_of_le hok.2.2.1 (by omega))) (Nat.le_of_lt (Nat.lt_of_lt_of_le hok.2.2.2 (by omega)))
        rw [Rp.right_at, hrt] at h
        exact h
      have PG : Hid (dn = 0 → ∀ w', Rp.pse b = 0 → w'.ownsRow w.heap.size 93 7 (.slice Q σ.x.n c1) σ.x.n (rcells σ.rows) → w'.ownsRow w.heap.size 90 3 (.slice G σ.x.m d) σ.x.m (pncells σ.gone) → Below w.heap.size w w' → PsR w b (.returned (.tuple #[.agg #[.int .u8 (σ.x.k : Int), .int .u32 (σ.x.id : Int), .int .u16 (σ.x.code : Int), .bool σ.x.last, .int .u64 (σ.x.ep : Int), .int .u64 (σ.x.fl : Int), .int .u64 (σ.x.un : Int), .int .u64 (σ.x.le : Int), .int .u64 (σ.x.st : Int), .int .u64 (σ.x.ti : Int), .slice Q σ.x.n c1, .slice G σ.x.m d], .int .i64 0])) w') := Lib.hid fun h0 w' h h1 h2 hb => by
        rw [← hFS h0] at h1 h2
        refine psr_good h ?_ h1 h2 hb
        rw [hFS h0]
        rfl
      obtain ⟨od, hod⟩ : ∃ v, σ.odd = v := ⟨_, rfl⟩
      rw [hod, hrt] at hE
      rw [hod]
      have kg := hld.2 _ (List.mem_cons_self ..)
      have g0 := kg.cell 0
      have g1 := kg.cell 1
      have g2 := kg.cell 2
      have HH0 := Lib.hid (And.intro hld (And.intro hrw hpn))
      have HE := Lib.hid hE
      have HA5 := Lib.hid ha5
      have HDN := Lib.hid hdn
      clear hσ ha5 hss hld hrw hpn hrf hdone hdn hFS hE hrt hod kg
      go_wp2_with fail
      clear g0 g1 g2
      refine (refDone8_any n c a5 _ g5 _ HA5.out).mono ?_
      rw [HDN.out]
      rintro e w7 ⟨rfl, b7⟩
      have hld := HH0.out.1.step b7
      have hP0 := HB1.out.2.below hld.1 HB1.out.2.lt
      have kr := hld.2 _ (List.mem_cons_of_mem _ (List.mem_cons_self ..))
      have HH := Lib.hid (And.intro kr (And.intro (own_below HH0.out.2.1 b7) (And.intro (own_below HH0.out.2.2 b7) (And.intro (below_next HB1.out.1 hld.1) hP0))))
      have B7 := Lib.hid b7
      have hzR : w.heap.size ≤ w3.heap.size + 1 := by have h1 := HB1.out.1.size; have h2 := HB1.out.2.lt; omega
      have p0 := hP0.cell 0
      have q0 := hP0.frozen 0
      have p1 := hP0.cell 1
      have q1 := hP0.frozen 1
      have p2 := hP0.cell 2
      have q2 := hP0.frozen 2
      have p3 := hP0.cell 3
      have q3 := hP0.frozen 3
      have p4 := hP0.cell 4
      have q4 := hP0.frozen 4
      have p5 := hP0.cell 5
      have q5 := hP0.frozen 5
      have p6 := hP0.cell 6
      have q6 := hP0.frozen 6
      have p7 := hP0.cell 7
      have q7 := hP0.frozen 7
      have p8 := hP0.cell 8
      have q8 := hP0.frozen 8
      have p9 := hP0.cell 9
      have q9 := hP0.frozen 9
      have p10 := hP0.cell 10
      have q10 := hP0.frozen 10
      have p11 := hP0.cell 11
      have q11 := hP0.frozen 11
      have rc0 : w7.cell? ⟨w3.heap.size, 0, none⟩ = some (.int .u8 (σ.x.k : Int)) := kr.cell 0
      have rc1 : w7.cell? ⟨w3.heap.size, 1, none⟩ = some (.int .u32 (σ.x.id : Int)) := kr.cell 1
      have rc2 : w7.cell? ⟨w3.heap.size, 2, none⟩ = some (.int .u16 (σ.x.code : Int)) := kr.cell 2
      have rc3 : w7.cell? ⟨w3.heap.size, 3, none⟩ = some (.bool σ.x.last) := kr.cell 3
      have rc4 : w7.cell? ⟨w3.heap.size, 4, none⟩ = some (.int .u64 (σ.x.ep : Int)) := kr.cell 4
      have rc5 : w7.cell? ⟨w3.heap.size, 5, none⟩ = some (.int .u64 (σ.x.fl : Int)) := kr.cell 5
      have rc6 : w7.cell? ⟨w3.heap.size, 6, none⟩ = some (.int .u64 (σ.x.un : Int)) := kr.cell 6
      have rc7 : w7.cell? ⟨w3.heap.size, 7, none⟩ = some (.int .u64 (σ.x.le : Int)) := kr.cell 7
      have rc8 : w7.cell? ⟨w3.heap.size, 8, none⟩ = some (.int .u64 (σ.x.st : Int)) := kr.cell 8
      have rc9 : w7.cell? ⟨w3.heap.size, 9, none⟩ = some (.int .u64 (σ.x.ti : Int)) := kr.cell 9
      have rc10 : w7.cell? ⟨w3.heap.size, 10, none⟩ = some (.slice Q σ.x.n c1) := kr.cell 10
      have rc11 : w7.cell? ⟨w3.heap.size, 11, none⟩ = some (.slice G σ.x.m d) := kr.cell 11
      clear hld hP0 kr b7
      by_cases hd0 : dn = 0
      rotate_left
      · have i7 : (dn == 0) = false := by rw [beq_eq_false_iff_ne]; exact hd0
        have i8 : (dn != 0) = true := by rw [bne_iff_ne]; exact hd0
        have HPS := Lib.hid (show Rp.pse b = dn by rw [HE.out, if_neg hd0])
        have HD := Lib.hid hd0
        go_wp2_with fail
        refine bodyPost_ret (v := .tuple #[.agg #[.int .u8 0, .int .u32 0, .int .u16 0, .bool false, .int .u64 0, .int .u64 0, .int .u64 0, .int .u64 0, .int .u64 0, .int .u64 0, .slice none 0 0, .slice none 0 0], .int .i64 dn]) ?_ rfl (psr_bad HPS.out HD.out (below_12 HH.out.2.2.2.1 (Nat.le_refl _) _ _ _ _ _ _ _ _ _ _ _ _))
        simp [results, Tryz.results29, go_sem, p0, p1, p2, p3, p4, p5, p6, p7, p8, p9, p10, p11]
      have HC2 := Lib.hid (CRt.out hd0)
      have PG2 := Lib.hid (PG.out hd0)
      clear CRt PG
      subst hd0
      cases od
      rotate_left
      · have HPS := Lib.hid (show Rp.pse b = 81 by rw [HE.out]; rfl)
        go_wp2_with fail
        refine bodyPost_ret (v := .tuple #[.agg #[.int .u8 0, .int .u32 0, .int .u16 0, .bool false, .int .u64 0, .int .u64 0, .int .u64 0, .int .u64 0, .int .u64 0, .int .u64 0, .slice none 0 0, .slice none 0 0], .int .i64 81]) ?_ rfl (psr_bad HPS.out (by decide) (below_12 HH.out.2.2.2.1 (Nat.le_refl _) _ _ _ _ _ _ _ _ _ _ _ _))
        simp [results, Tryz.results29, go_sem, p0, p1, p2, p3, p4, p5, p6, p7, p8, p9, p10, p11]
      go_wp2_with fail
      refine (HC2.out _ B7.out).mono ?_
      rintro e w8 ⟨rfl, b8⟩
      have hP0 := HH.out.2.2.2.2.below b8 HH.out.2.2.2.2.lt
      have kr := HH.out.1.below b8 HH.out.1.lt
      have H8 := Lib.hid (And.intro hP0 (And.intro (own_below HH.out.2.1 b8) (And.intro (own_below HH.out.2.2.1 b8) (below_next HH.out.2.2.2.1 b8))))
      clear p0 q0 p1 q1 p2 q2 p3 q3 p4 q4 p5 q5 p6 q6 p7 q7 p8 q8 p9 q9 p10 q10 p11 q11 rc0 rc1 rc2 rc3 rc4 rc5 rc6 rc7 rc8 rc9 rc10 rc11
      have p0 := hP0.cell 0
      have q0 := hP0.frozen 0
      have p1 := hP0.cell 1
      have q1 := hP0.frozen 1
      have p2 := hP0.cell 2
      have q2 := hP0.frozen 2
      have p3 := hP0.cell 3
      have q3 := hP0.frozen 3
      have p4 := hP0.cell 4
      have q4 := hP0.frozen 4
      have p5 := hP0.cell 5
      have q5 := hP0.frozen 5
      have p6 := hP0.cell 6
      have q6 := hP0.frozen 6
      have p7 := hP0.cell 7
      have q7 := hP0.frozen 7
      have p8 := hP0.cell 8
      have q8 := hP0.frozen 8
      have p9 := hP0.cell 9
      have q9 := hP0.frozen 9
      have p10 := hP0.cell 10
      have q10 := hP0.frozen 10
      have p11 := hP0.cell 11
      have q11 := hP0.frozen 11
      have rc0 : w8.cell? ⟨w3.heap.size, 0, none⟩ = some (.int .u8 (σ.x.k : Int)) := kr.cell 0
      have rc1 : w8.cell? ⟨w3.heap.size, 1, none⟩ = some (.int .u32 (σ.x.id : Int)) := kr.cell 1
      have rc2 : w8.cell? ⟨w3.heap.size, 2, none⟩ = some (.int .u16 (σ.x.code : Int)) := kr.cell 2
      have rc3 : w8.cell? ⟨w3.heap.size, 3, none⟩ = some (.bool σ.x.last) := kr.cell 3
      have rc4 : w8.cell? ⟨w3.heap.size, 4, none⟩ = some (.int .u64 (σ.x.ep : Int)) := kr.cell 4
      have rc5 : w8.cell? ⟨w3.heap.size, 5, none⟩ = some (.int .u64 (σ.x.fl : Int)) := kr.cell 5
      have rc6 : w8.cell? ⟨w3.heap.size, 6, none⟩ = some (.int .u64 (σ.x.un : Int)) := kr.cell 6
      have rc7 : w8.cell? ⟨w3.heap.size, 7, none⟩ = some (.int .u64 (σ.x.le : Int)) := kr.cell 7
      have rc8 : w8.cell? ⟨w3.heap.size, 8, none⟩ = some (.int .u64 (σ.x.st : Int)) := kr.cell 8
      have rc9 : w8.cell? ⟨w3.heap.size, 9, none⟩ = some (.int .u64 (σ.x.ti : Int)) := kr.cell 9
      have rc10 : w8.cell? ⟨w3.heap.size, 10, none⟩ = some (.slice Q σ.x.n c1) := kr.cell 10
      have rc11 : w8.cell? ⟨w3.heap.size, 11, none⟩ = some (.slice G σ.x.m d) := kr.cell 11
      clear hP0 kr b8
      cases rt
      · have HPS := Lib.hid (show Rp.pse b = 81 by rw [HE.out]; rfl)
        go_wp2_with fail
        refine bodyPost_ret (v := .tuple #[.agg #[.int .u8 0, .int .u32 0, .int .u16 0, .bool false, .int .u64 0, .int .u64 0, .int .u64 0, .int .u64 0, .int .u64 0, .int .u64 0, .slice none 0 0, .slice none 0 0], .int .i64 81]) ?_ rfl (psr_bad HPS.out (by decide) (below_12 H8.out.2.2.2 (Nat.le_refl _) _ _ _ _ _ _ _ _ _ _ _ _))
        simp [results, Tryz.results29, go_sem, p0, p1, p2, p3, p4, p5, p6, p7, p8, p9, p10, p11]
      · have HPS := Lib.hid (show Rp.pse b = 0 by rw [HE.out]; rfl)
        go_wp2_with fail
        refine bodyPost_ret (v := .tuple #[.agg #[.int .u8 (σ.x.k : Int), .int .u32 (σ.x.id : Int), .int .u16 (σ.x.code : Int), .bool σ.x.last, .int .u64 (σ.x.ep : Int), .int .u64 (σ.x.fl : Int), .int .u64 (σ.x.un : Int), .int .u64 (σ.x.le : Int), .int .u64 (σ.x.st : Int), .int .u64 (σ.x.ti : Int), .slice Q σ.x.n c1, .slice G σ.x.m d], .int .i64 0]) ?_ rfl (PG2.out _ HPS.out (own_off (own_lower H8.out.2.1 hzR) (grown_12 _ _ _ _ _ _ _ _ _ _ _ _ _ _) H8.out.1 (by decide)) (own_off (own_lower H8.out.2.2.1 hzR) (grown_12 _ _ _ _ _ _ _ _ _ _ _ _ _ _) H8.out.1 (by decide)) (below_12 H8.out.2.2.2 (Nat.le_refl _) _ _ _ _ _ _ _ _ _ _ _ _))
        simp [results, Tryz.results29, go_sem, p0, p1, p2, p3, p4, p5, p6, p7, p8, p9, p10, p11]
end Go.Proofs.YtognlgklepgemaaGreat

namespace Go.Proofs.YtognlgklepgemaaGreat
open Go.ChangeShapes Go.WideShapes Go.ChangeAt Go.RowKit

set_option maxRecDepth 100000 in
set_option maxHeartbeats 4000000 in
theorem refParse8_bad (n c B y : Nat) (A : Option Addr) (b : List Nat) (w : World) (hb : Bytes w B A n b) (hB : B ≤ w.heap.size) (h0 : 0 < n) (hy : b.getD 0 0 = y) (hne : y = 0 ∨ 7 < y) (hpse : Rp.pse b = 80) : Calls Tryz.prog 29 #[.slice A n c] w (PsR w b) := by
  obtain ⟨W1, hW1⟩ : ∃ W, w.alloc (.cells #[.int .u8 0, .int .u32 0, .int .u16 0, .bool false, .int .u64 0, .int .u64 0, .int .u64 0, .int .u64 0, .int .u64 0, .int .u64 0, .slice none 0 0, .slice none 0 0] 40) = W := ⟨_, rfl⟩
  have B1 : Below w.heap.size w W1 := by
    rw [← hW1]
    exact (Below.refl _ _).alloc (Nat.le_refl _) _
  have hP0 : Blk W1 w.heap.size 40 #[.int .u8 0, .int .u32 0, .int .u16 0, .bool false, .int .u64 0, .int .u64 0, .int .u64 0, .int .u64 0, .int .u64 0, .int .u64 0, .slice none 0 0, .slice none 0 0] := by
    rw [← hW1]
    exact Blk.new w _ _
  obtain ⟨bb, off, rfl, hbb, hc⟩ := hb.2.2 h0
  have hc0 := hc 0 h0
  rw [Nat.add_zero, hy] at hc0
  have d0 : W1.cell? ⟨bb, off, none⟩ = some (.int .u8 (y : Int)) := (B1.cell (p := ⟨bb, off, none⟩) (by show bb < w.heap.size; omega)).trans hc0
  have i1 : (0 : Int) < n := by omega
  have HB := Lib.hid B1
  have HP := Lib.hid hpse
  clear hb hB h0 hc hc0 hy hbb hpse B1
  rcases hne with rfl | h8
  · skip
    go_enter Tryz.func29, Tryz.ntmps29
    have p0 := hP0.cell 0
    have q0 := hP0.frozen 0
    have p1 := hP0.cell 1
    have q1 := hP0.frozen 1
    have p2 := hP0.cell 2
    have q2 := hP0.frozen 2
    have p3 := hP0.cell 3
    have q3 := hP0.frozen 3
    have p4 := hP0.cell 4
    have q4 := hP0.frozen 4
    have p5 := hP0.cell 5
    have q5 := hP0.frozen 5
    have p6 := hP0.cell 6
    have q6 := hP0.frozen 6
    have p7 := hP0.cell 7
    have q7 := hP0.frozen 7
    have p8 := hP0.cell 8
    have q8 := hP0.frozen 8
    have p9 := hP0.cell 9
    have q9 := hP0.frozen 9
    have p10 := hP0.cell 10
    have q10 := hP0.frozen 10
    have p11 := hP0.cell 11
    have q11 := hP0.frozen 11
    clear hP0
    go_wp2_with fail
    clear hW1
    refine bodyPost_ret (v := .tuple #[.agg #[.int .u8 0, .int .u32 0, .int .u16 0, .bool false, .int .u64 0, .int .u64 0, .int .u64 0, .int .u64 0, .int .u64 0, .int .u64 0, .slice none 0 0, .slice none 0 0], .int .i64 80]) ?_ rfl (psr_bad HP.out (by decide) (below_12 HB.out (Nat.le_refl _) _ _ _ _ _ _ _ _ _ _ _ _))
    simp [results, Tryz.results29, go_sem, p0, p1, p2, p3, p4, p5, p6, p7, p8, p9, p10, p11]
  · have i2 : (7 : Int) < y := by omega
    have i3 : ¬ (y : Int) < 1 := by omega
    go_enter Tryz.func29, Tryz.ntmps29
    have p0 := hP0.cell 0
    have q0 := hP0.frozen 0
    have p1 := hP0.cell 1
    have q1 := hP0.frozen 1
    have p2 := hP0.cell 2
    have q2 := hP0.frozen 2
    have p3 := hP0.cell 3
    have q3 := hP0.frozen 3
    have p4 := hP0.cell 4
    have q4 := hP0.frozen 4
    have p5 := hP0.cell 5
    have q5 := hP0.frozen 5
    have p6 := hP0.cell 6
    have q6 := hP0.frozen 6
    have p7 := hP0.cell 7
    have q7 := hP0.frozen 7
    have p8 := hP0.cell 8
    have q8 := hP0.frozen 8
    have p9 := hP0.cell 9
    have q9 := hP0.frozen 9
    have p10 := hP0.cell 10
    have q10 := hP0.frozen 10
    have p11 := hP0.cell 11
    have q11 := hP0.frozen 11
    clear hP0
    go_wp2_with fail
    clear hW1
    refine bodyPost_ret (v := .tuple #[.agg #[.int .u8 0, .int .u32 0, .int .u16 0, .bool false, .int .u64 0, .int .u64 0, .int .u64 0, .int .u64 0, .int .u64 0, .int .u64 0, .slice none 0 0, .slice none 0 0], .int .i64 80]) ?_ rfl (psr_bad HP.out (by decide) (below_12 HB.out (Nat.le_refl _) _ _ _ _ _ _ _ _ _ _ _ _))
    simp [results, Tryz.results29, go_sem, p0, p1, p2, p3, p4, p5, p6, p7, p8, p9, p10, p11]

set_option maxRecDepth 100000 in
set_option maxHeartbeats 4000000 in
theorem refParse8_0 (c B : Nat) (A : Option Addr) (w : World) (hb : Bytes w B A 0 []) (hB : B ≤ w.heap.size) : Calls Tryz.prog 29 #[.slice A 0 c] w (PsR w []) := by
  obtain ⟨W1, hW1⟩ : ∃ W, w.alloc (.cells #[.int .u8 0, .int .u32 0, .int .u16 0, .bool false, .int .u64 0, .int .u64 0, .int .u64 0, .int .u64 0, .int .u64 0, .int .u64 0, .slice none 0 0, .slice none 0 0] 40) = W := ⟨_, rfl⟩
  have B1 : Below w.heap.size w W1 := by
    rw [← hW1]
    exact (Below.refl _ _).alloc (Nat.le_refl _) _
  have K1 : Blk W1 w.heap.size 40 #[.int .u8 0, .int .u32 0, .int .u16 0, .bool false, .int .u64 0, .int .u64 0, .int .u64 0, .int .u64 0, .int .u64 0, .int .u64 0, .slice none 0 0, .slice none 0 0] := by
    rw [← hW1]
    exact Blk.new w _ _
  have hby := hb.below B1 hB
  have hBz := Nat.le_trans hB B1.size
  have HBY : Hid (∀ W, Below W1.heap.size W1 W → Bytes W B A 0 [] ∧ B ≤ W.heap.size) := Lib.hid fun W hW => ⟨hby.below hW hBz, Nat.le_trans hBz hW.size⟩
  have hk1 : Rp.vl (([] : List Nat).drop 0, false) 1 = 0 := rfl
  have hs1 : Rp.nx (([] : List Nat).drop 0, false) 1 = ([], true) := rfl
  have hk2 : Rp.vl (([] : List Nat), true) 4 = 0 := rfl
  have hs2 : Rp.nx (([] : List Nat), true) 4 = ([], true) := rfl
  have HK := Lib.hid (And.intro hk1 (And.intro hs1 (And.intro hk2 hs2)))
  have HB1 := Lib.hid (And.intro B1 K1)
  have HPS := Lib.hid (show Rp.pse [] = 20 from rfl)
  have HPT : Hid (∀ W, Calls Tryz.prog 25 #[.int .u8 0] W fun e w' => e = .returned (.string (textOf [])) ∧ Below W.heap.size W w') := Lib.hid fun W => refParts8_any 0 W
  clear hb hB B1 K1 hby hBz hk1 hs1 hk2 hs2
  go_enter Tryz.func29, Tryz.ntmps29
  go_wp2_with fail
  clear hW1
  refine (rt_take (c := c) (a := 0) (f := false) 1 (HBY.out W1 (Below.refl _ _)).1 (HBY.out W1 (Below.refl _ _)).2 (by omega) (Nat.zero_le _) (by omega)).mono ?_
  rw [HK.out.1, HK.out.2.1]
  rintro e w2 ⟨a1, g1, ha1, hs1, rfl, b2⟩
  obtain rfl : a1 = 0 := by omega
  obtain rfl : g1 = true := (congrArg Prod.snd hs1).symm
  have S2 := Lib.hid (((Held.start W1).step b2).new #[.slice A 0 c, .int .i64 (0 : Int), .bool true] 117)
  have hz12 := b2.size
  clear b2 hs1
  go_wp2_with fail
  refine (rt_take (b := []) (c := c) (a := 0) (f := true) 4 (HBY.out _ S2.out.1).1 (HBY.out _ S2.out.1).2 (by omega) ha1 (by omega)).mono ?_
  rw [show Rp.vl (([] : List Nat).drop 0, true) 4 = 0 from rfl, show Rp.nx (([] : List Nat).drop 0, true) 4 = ([], true) from rfl]
  rintro e w3 ⟨a2, g2, ha2, hs2, rfl, b3⟩
  obtain rfl : a2 = 0 := by omega
  obtain rfl : g2 = true := (congrArg Prod.snd hs2).symm
  have S3 := Lib.hid (S2.out.step b3)
  have p0 := S3.out.top.cell 0
  have p1 := S3.out.top.cell 1
  have p2 := S3.out.top.cell 2
  have pf0 := S3.out.top.frozen 0
  have pf1 := S3.out.top.frozen 1
  have pf2 := S3.out.top.frozen 2
  clear b3 hs2
  go_wp2_with fail
  clear p0 p1 p2 pf0 pf1 pf2
  have S4 := (S3.out.three8 hz12 (fun x hx => by cases hx) (.slice A 0 c) (.int .i64 0) (.bool true)).new #[.int .u8 0, .int .u32 0, .int .u16 0, .bool false, .int .u64 0, .int .u64 0, .int .u64 0, .int .u64 0, .int .u64 0, .int .u64 0, .slice none 0 0, .slice none 0 0] 40
  simp only [World.size_setCell] at S4
  obtain ⟨W4, hW4⟩ : ∃ W, ((((w3.setCell ⟨w2.heap.size, 0, none⟩ (.slice A 0 c)).setCell ⟨w2.heap.size, 1, none⟩ (.int .i64 0)).setCell ⟨w2.heap.size, 2, none⟩ (.bool true)).alloc (.cells #[.int .u8 0, .int .u32 0, .int .u16 0, .bool false, .int .u64 0, .int .u64 0, .int .u64 0, .int .u64 0, .int .u64 0, .int .u64 0, .slice none 0 0, .slice none 0 0] 40)) = W := ⟨_, rfl⟩
  rw [hW4] at S4 ⊢
  clear hW4
  refine (HPT.out _).mono ?_
  rintro e w4 ⟨rfl, b4⟩
  have hh := S4.step b4
  have kg := hh.2 _ (List.mem_cons_of_mem _ (List.mem_cons_self ..))
  have g0 := kg.cell 0
  have g1 := kg.cell 1
  have g2 := kg.cell 2
  have HB4 := Lib.hid hh.1
  have hT : (textOf []).size = 0 := rfl
  clear hh kg b4 S4 S3 S2
  go_wp2_with fail
  go_loopw [9, 10] (fun o i wr => i = .int .i64 0 ∧ o = .bool false ∧ wr = w4) (fun _ _ _ => 0)
  case atStart => exact ⟨rfl, rfl, rfl⟩
  case round =>
    obtain ⟨rfl, rfl, rfl⟩ := hrel
    go_wp2_with fail
    clear g0 g1 g2
    refine (refDone8_any 0 c 0 A true _ (Nat.le_refl _)).mono ?_
    rw [show doneOf true (0 - 0) = 20 from rfl]
    rintro e w7 ⟨rfl, b7⟩
    have hb7 := below_next HB4.out b7
    have hP0 := HB1.out.2.below hb7 HB1.out.2.lt
    have HH := Lib.hid (below_next HB1.out.1 hb7)
    have p0 := hP0.cell 0
    have q0 := hP0.frozen 0
    have p1 := hP0.cell 1
    have q1 := hP0.frozen 1
    have p2 := hP0.cell 2
    have q2 := hP0.frozen 2
    have p3 := hP0.cell 3
    have q3 := hP0.frozen 3
    have p4 := hP0.cell 4
    have q4 := hP0.frozen 4
    have p5 := hP0.cell 5
    have q5 := hP0.frozen 5
    have p6 := hP0.cell 6
    have q6 := hP0.frozen 6
    have p7 := hP0.cell 7
    have q7 := hP0.frozen 7
    have p8 := hP0.cell 8
    have q8 := hP0.frozen 8
    have p9 := hP0.cell 9
    have q9 := hP0.frozen 9
    have p10 := hP0.cell 10
    have q10 := hP0.frozen 10
    have p11 := hP0.cell 11
    have q11 := hP0.frozen 11
    clear hb7 hP0 b7
    go_wp2_with fail
    refine bodyPost_ret (v := .tuple #[.agg #[.int .u8 0, .int .u32 0, .int .u16 0, .bool false, .int .u64 0, .int .u64 0, .int .u64 0, .int .u64 0, .int .u64 0, .int .u64 0, .slice none 0 0, .slice none 0 0], .int .i64 20]) ?_ rfl (psr_bad HPS.out (by decide) (below_12 HH.out (Nat.le_refl _) _ _ _ _ _ _ _ _ _ _ _ _))
    simp [results, Tryz.results29, go_sem, p0, p1, p2, p3, p4, p5, p6, p7, p8, p9, p10, p11]
theorem rp_kind (y : Nat) (l : List Nat) : Rp.vl (y :: l, false) 1 = y := by
  unfold Rp.vl
  dsimp only
  rw [Pk.taken_no (Pk.fails_no (by simp))]
  simp [Pk.num]
theorem refParse8_any (n c B : Nat) (A : Option Addr) (b : List Nat) (w : World) (hb : Bytes w B A n b) (hB : B ≤ w.heap.size) (hn : n ≤ 1000000) (hnc : n ≤ c) : Calls Tryz.prog 29 #[.slice A n c] w (PsR w b) := by
  cases b with
  | nil =>
    obtain rfl : n = 0 := hb.1.symm
    exact refParse8_0 c B A w hb hB
  | cons y l =>
    have h0 : 0 < n := by
      have := hb.1
      simp only [List.length_cons] at this
      omega
    have hy : (y :: l).getD 0 0 = y := rfl
    have htag : Rp.tag (y :: l) = !Rp.isK y := rfl
    cases hK : Rp.isK y
    · have hp : Rp.pse (y :: l) = 80 := if_pos (by rw [htag, hK]; rfl)
      refine refParse8_bad n c B y A (y :: l) w hb hB h0 hy ?_ hp
      have hK' : ¬ (1 ≤ y ∧ y ≤ 7) := of_decide_eq_false hK
      omega
    · rw [hK] at htag
      have hK' : 1 ≤ y ∧ y ≤ 7 := of_decide_eq_true hK
      exact refParse8_go n c B y A (y :: l) w hb hB hn hnc h0 hy hK'.1 hK'.2 htag
end Go.Proofs.YtognlgklepgemaaGreat

namespace Go.Proofs.YtognlgklepgemaaGreat
open Go.ChangeShapes Go.WideShapes Go.ChangeAt Go.RowKit

theorem own_two8 {w : World} {b1 b2 e1 e2 s1 s2 n1 n2 : Nat} {v1 v2 : Value} {xs1 xs2 : List Value} (h1 : w.ownsRow b1 e1 s1 v1 n1 xs1) (h2 : w.ownsRow b2 e2 s2 v2 n2 xs2) (hne : e1 ≠ e2) : v1.ownBlock = none ∨ v1.ownBlock ≠ v2.ownBlock := by
  rcases h1.2 with ⟨rfl, -⟩ | ⟨g, cap, cur, rfl, hb, hh, r⟩
  · exact .inl rfl
  · rcases h2.2 with ⟨rfl, -⟩ | ⟨g', cap', cur', rfl, hb', hh', r'⟩
    · exact .inr (by intro h; cases h)
    · refine .inr fun h => hne ?_
      obtain rfl : g = g' := by
        injection h
      rw [hh] at hh'
      injection hh' with h1
      injection h1
theorem psx_few {b : List Nat} (h : ∀ y ∈ b, y < 256) : (Rp.psx b).n < 256 ∧ (Rp.psx b).m < 256 := by
  have ok := Rp.fin_ok h
  unfold Rp.psx
  split
  · exact ok.2.2
  · exact ⟨by show 0 < 256; omega, by show 0 < 256; omega⟩
set_option maxRecDepth 100000 in
set_option maxHeartbeats 8000000 in
theorem replyReads_any (n c B : Nat) (A : Option Addr) (b : List Nat) (w : World) (hb : Bytes w B A n b) (hB : B ≤ w.heap.size) : Calls Tryz.prog 10 #[.slice A n c] w (LawP w) := by
  by_cases h3 : 3000 < n
  · have i20 : (3000 : Int) < n := by omega
    clear hb hB h3
    go_enter Tryz.func10, Tryz.ntmps10
    go_wp2_with fail
    refine (works8_any _).mono ?_
    rintro e w1 ⟨rfl, b1⟩
    have HB1 := Lib.hid b1
    clear b1
    go_wp2_with fail
    go_ret
    exact ⟨rfl, HB1.out⟩
  have i20 : ¬ (3000 : Int) < n := by omega
  have BY : Hid (∀ W, Below w.heap.size w W → Bytes W B A n b ∧ B ≤ W.heap.size) := Lib.hid fun W hW => ⟨hb.below hW hB, Nat.le_trans hB hW.size⟩
  have CO := Lib.hid (own_any n c B A b w hb (by omega))
  have HLT := Lib.hid hb.2.1
  have hfew := psx_few hb.2.1
  obtain ⟨X, hX⟩ : ∃ X, Rp.psx b = X := ⟨_, rfl⟩
  rw [hX] at hfew
  obtain ⟨R, hR⟩ : ∃ X, Rp.psr b = X := ⟨_, rfl⟩
  obtain ⟨N, hN⟩ : ∃ X, Rp.psg b = X := ⟨_, rfl⟩
  obtain ⟨E, hE⟩ : ∃ E, Rp.pse b = E := ⟨_, rfl⟩
  have CP : Hid (∀ W, Below w.heap.size w W → Calls Tryz.prog 23 #[.slice A n c] W fun e W' => ∃ A4 c4 G4 d4, e = .returned (.tuple #[.agg #[.int .u8 (X.k : Int), .int .u32 (X.id : Int), .int .u16 (X.code : Int), .bool X.last, .int .u64 (X.ep : Int), .int .u64 (X.fl : Int), .int .u64 (X.un : Int), .int .u64 (X.le : Int), .int .u64 (X.st : Int), .int .u64 (X.ti : Int), .slice A4 X.n c4, .slice G4 X.m d4], .int .i64 E]) ∧ W'.ownsRow W.heap.size 49 7 (.slice A4 X.n c4) X.n (rcells R) ∧ W'.ownsRow W.heap.size 45 3 (.slice G4 X.m d4) X.m (pncells N) ∧ Below W.heap.size W W') := Lib.hid fun W hW => by
    have h := pParse8_any n c B A b W (BY.out W hW).1 (BY.out W hW).2 (by omega)
    unfold PsP at h
    rw [hX, hE, hR, hN] at h
    exact h
  have CR : Hid (∀ W A' c' B', Bytes W B' A' n b → B' ≤ W.heap.size → n ≤ c' → Calls Tryz.prog 29 #[.slice A' n c'] W fun e W' => ∃ A2 c2 G2 d2, e = .returned (.tuple #[.agg #[.int .u8 (X.k : Int), .int .u32 (X.id : Int), .int .u16 (X.code : Int), .bool X.last, .int .u64 (X.ep : Int), .int .u64 (X.fl : Int), .int .u64 (X.un : Int), .int .u64 (X.le : Int), .int .u64 (X.st : Int), .int .u64 (X.ti : Int), .slice A2 X.n c2, .slice G2 X.m d2], .int .i64 E]) ∧ W'.ownsRow W.heap.size 93 7 (.slice A2 X.n c2) X.n (rcells R) ∧ W'.ownsRow W.heap.size 90 3 (.slice G2 X.m d2) X.m (pncells N) ∧ Below W.heap.size W W') := Lib.hid fun W A' c' B' h1 h2 h3 => by
    have h := refParse8_any n c' B' A' b W h1 h2 (by omega) h3
    unfold PsR at h
    rw [hX, hE, hR, hN] at h
    exact h
  have CD : Hid (∀ W A4 c4 G4 d4, (X.at_ A4 c4 G4 d4).In W W.heap.size R N → Calls Tryz.prog 9 #[.agg #[.int .u8 (X.k : Int), .int .u32 (X.id : Int), .int .u16 (X.code : Int), .bool X.last, .int .u64 (X.ep : Int), .int .u64 (X.fl : Int), .int .u64 (X.un : Int), .int .u64 (X.le : Int), .int .u64 (X.st : Int), .int .u64 (X.ti : Int), .slice A4 X.n c4, .slice G4 X.m d4]] W fun e W' => ∃ A5 c5 G5 d5, e = .returned (.agg #[.int .u8 (X.k : Int), .int .u32 (X.id : Int), .int .u16 (X.code : Int), .bool X.last, .int .u64 (X.ep : Int), .int .u64 (X.fl : Int), .int .u64 (X.un : Int), .int .u64 (X.le : Int), .int .u64 (X.st : Int), .int .u64 (X.ti : Int), .slice A5 X.n c5, .slice G5 X.m d5]) ∧ (X.at_ A5 c5 G5 d5).In W' W'.heap.size R N ∧ Below W.heap.size W W') := Lib.hid fun W A4 c4 G4 d4 h => docRep_any (X.at_ A4 c4 G4 d4) R N W.heap.size W h (Nat.le_refl _) (by have := hfew.1; show X.n ≤ _; omega) (by have := hfew.2; show X.m ≤ _; omega)
  have CS : Hid (∀ W A5 c5 G5 d5 A2 c2 G2 d2, (X.at_ A5 c5 G5 d5).In W W.heap.size R N → (X.at_ A2 c2 G2 d2).In W W.heap.size R N → Calls Tryz.prog 22 #[.agg #[.int .u8 (X.k : Int), .int .u32 (X.id : Int), .int .u16 (X.code : Int), .bool X.last, .int .u64 (X.ep : Int), .int .u64 (X.fl : Int), .int .u64 (X.un : Int), .int .u64 (X.le : Int), .int .u64 (X.st : Int), .int .u64 (X.ti : Int), .slice A5 X.n c5, .slice G5 X.m d5], .agg #[.int .u8 (X.k : Int), .int .u32 (X.id : Int), .int .u16 (X.code : Int), .bool X.last, .int .u64 (X.ep : Int), .int .u64 (X.fl : Int), .int .u64 (X.un : Int), .int .u64 (X.le : Int), .int .u64 (X.st : Int), .int .u64 (X.ti : Int), .slice A2 X.n c2, .slice G2 X.m d2]] W fun e W' => e = .returned (.bool true) ∧ Below W.heap.size W W') := Lib.hid fun W A5 c5 G5 d5 A2 c2 G2 d2 h h' => by
    have h := refSame8_any (X.at_ A5 c5 G5 d5) (X.at_ A2 c2 G2 d2) R R N N W.heap.size W h h' (Nat.le_refl _) (by have := hfew.1; show X.n ≤ _; omega) (by have := hfew.2; show X.m ≤ _; omega) (by have := hfew.1; show X.n ≤ _; omega) (by have := hfew.2; show X.m ≤ _; omega)
    rw [Rp.same_at] at h
    exact h
  have CK : Hid (∀ W A' c' B', Below w.heap.size w W → Bytes W B' A' n b → B' ≤ W.heap.size → Calls Tryz.prog 17 #[.slice A n c, .slice A' n c'] W fun e W' => e = .returned (.bool true) ∧ Below W.heap.size W W') := Lib.hid fun W A' c' B' hW h1 h2 => same_b n c c' W.heap.size A A' b W ((BY.out W hW).1.more (BY.out W hW).2) (h1.more h2) (by omega)
  have i9 : (E == E) = true := by simp
  have i8 : (E != E) = false := by simp
  have HF := Lib.hid hfew
  clear hb hB h3 hX hE hR hN hfew
  go_enter Tryz.func10, Tryz.ntmps10
  go_wp2_with fail
  refine CO.out.mono ?_
  rintro e w1 ⟨A1, c1, rfl, o1, b1⟩
  have H1 := Lib.hid (And.intro (Bytes.of_own o1 HLT.out) (And.intro b1 (own_cap o1)))
  clear o1 b1
  go_wp2_with fail
  refine (CR.out w1 A1 c1 _ H1.out.1 (Nat.le_refl _) H1.out.2.2).mono ?_
  rintro e w2 ⟨A2, c2, G2, d2, rfl, o2, p2, b2⟩
  have S2 := (((Held.start w).step H1.out.2.1).step b2).new #[.int .u8 (X.k : Int), .int .u32 (X.id : Int), .int .u16 (X.code : Int), .bool X.last, .int .u64 (X.ep : Int), .int .u64 (X.fl : Int), .int .u64 (X.un : Int), .int .u64 (X.le : Int), .int .u64 (X.st : Int), .int .u64 (X.ti : Int), .slice A2 X.n c2, .slice G2 X.m d2] 40
  have a2 : Below w2.heap.size w2 (w2.alloc (.cells #[.int .u8 (X.k : Int), .int .u32 (X.id : Int), .int .u16 (X.code : Int), .bool X.last, .int .u64 (X.ep : Int), .int .u64 (X.fl : Int), .int .u64 (X.un : Int), .int .u64 (X.le : Int), .int .u64 (X.st : Int), .int .u64 (X.ti : Int), .slice A2 X.n c2, .slice G2 X.m d2] 40)) := (Below.refl _ _).alloc (Nat.le_refl _) _
  have D2 := below_next b2 a2
  have O2 := own_below o2 a2
  have P2 := own_below p2 a2
  clear b2 o2 p2 a2
  go_upto_region 5 with (fail)
  obtain ⟨W2, hW⟩ : ∃ W, w2.alloc (.cells #[.int .u8 (X.k : Int), .int .u32 (X.id : Int), .int .u16 (X.code : Int), .bool X.last, .int .u64 (X.ep : Int), .int .u64 (X.fl : Int), .int .u64 (X.un : Int), .int .u64 (X.le : Int), .int .u64 (X.st : Int), .int .u64 (X.ti : Int), .slice A2 X.n c2, .slice G2 X.m d2] 40) = W := ⟨_, rfl⟩
  rw [hW] at S2 D2 O2 P2 ⊢
  have HS2 := Lib.hid (And.intro S2 (And.intro D2 (And.intro O2 P2)))
  clear hW S2 D2 O2 P2
  go_wp2_with fail
  go_loopw [6] (fun t wr => ∃ j : Nat, j ≤ 2 ∧ t = .int .i64 (j : Int) ∧ Below W2.heap.size W2 wr) (fun t _ => 2 - (intOf t).toNat)
  case atStart => exact ⟨0, by omega, rfl, Below.refl _ _⟩
  case round =>
    obtain ⟨j, hj, rfl, hbj⟩ := hrel
    have HJ := Lib.hid hbj
    clear hbj
    by_cases hj2 : j < 2
    · have i1 : (j : Int) < 2 := by omega
      go_wp2_with fail
      refine (CP.out _ (below_next HS2.out.1.1 HJ.out)).mono ?_
      rintro e w4 ⟨A4, c4, G4, d4, rfl, o4, p4, b4⟩
      have a4 : Below w4.heap.size w4 (w4.alloc (.cells #[.int .u8 (X.k : Int), .int .u32 (X.id : Int), .int .u16 (X.code : Int), .bool X.last, .int .u64 (X.ep : Int), .int .u64 (X.fl : Int), .int .u64 (X.un : Int), .int .u64 (X.le : Int), .int .u64 (X.st : Int), .int .u64 (X.ti : Int), .slice A4 X.n c4, .slice G4 X.m d4] 28)) := (Below.refl _ _).alloc (Nat.le_refl _) _
      have K4 : Blk (w4.alloc (.cells #[.int .u8 (X.k : Int), .int .u32 (X.id : Int), .int .u16 (X.code : Int), .bool X.last, .int .u64 (X.ep : Int), .int .u64 (X.fl : Int), .int .u64 (X.un : Int), .int .u64 (X.le : Int), .int .u64 (X.st : Int), .int .u64 (X.ti : Int), .slice A4 X.n c4, .slice G4 X.m d4] 28)) w4.heap.size 28 #[.int .u8 (X.k : Int), .int .u32 (X.id : Int), .int .u16 (X.code : Int), .bool X.last, .int .u64 (X.ep : Int), .int .u64 (X.fl : Int), .int .u64 (X.un : Int), .int .u64 (X.le : Int), .int .u64 (X.st : Int), .int .u64 (X.ti : Int), .slice A4 X.n c4, .slice G4 X.m d4] := Blk.new w4 _ _
      have D4 := below_next b4 a4
      have O4 := own_below o4 a4
      have P4 := own_below p4 a4
      have L4 := Lib.hid (And.intro (fun k hk => (o4.lt k hk).2) (fun k hk => (p4.lt k hk).2))
      clear o4 p4 b4 a4
      go_upto_region 9 with (fail)
      obtain ⟨W4, hW⟩ : ∃ W, w4.alloc (.cells #[.int .u8 (X.k : Int), .int .u32 (X.id : Int), .int .u16 (X.code : Int), .bool X.last, .int .u64 (X.ep : Int), .int .u64 (X.fl : Int), .int .u64 (X.un : Int), .int .u64 (X.le : Int), .int .u64 (X.st : Int), .int .u64 (X.ti : Int), .slice A4 X.n c4, .slice G4 X.m d4] 28) = W := ⟨_, rfl⟩
      rw [hW] at K4 D4 O4 P4 ⊢
      clear hW
      have HK4 := Lib.hid (And.intro K4 (And.intro D4 (And.intro O4 P4)))
      have PC : Hid (∀ W, Below W4.heap.size W4 W → (fun W => (W.cell? ⟨w4.heap.size, 0, none⟩ = some (.int .u8 (X.k : Int)) ∧ W.cell? ⟨w4.heap.size, 1, none⟩ = some (.int .u32 (X.id : Int)) ∧ W.cell? ⟨w4.heap.size, 2, none⟩ = some (.int .u16 (X.code : Int)) ∧ W.cell? ⟨w4.heap.size, 3, none⟩ = some (.bool X.last) ∧ W.cell? ⟨w4.heap.size, 4, none⟩ = some (.int .u64 (X.ep : Int)) ∧ W.cell? ⟨w4.heap.size, 5, none⟩ = some (.int .u64 (X.fl : Int)) ∧ W.cell? ⟨w4.heap.size, 6, none⟩ = some (.int .u64 (X.un : Int)) ∧ W.cell? ⟨w4.heap.size, 7, none⟩ = some (.int .u64 (X.le : Int)) ∧ W.cell? ⟨w4.heap.size, 8, none⟩ = some (.int .u64 (X.st : Int)) ∧ W.cell? ⟨w4.heap.size, 9, none⟩ = some (.int .u64 (X.ti : Int)) ∧ W.cell? ⟨w4.heap.size, 10, none⟩ = some (.slice A4 X.n c4) ∧ W.cell? ⟨w4.heap.size, 11, none⟩ = some (.slice G4 X.m d4)) ∧ (W.cell? ⟨w2.heap.size, 0, none⟩ = some (.int .u8 (X.k : Int)) ∧ W.cell? ⟨w2.heap.size, 1, none⟩ = some (.int .u32 (X.id : Int)) ∧ W.cell? ⟨w2.heap.size, 2, none⟩ = some (.int .u16 (X.code : Int)) ∧ W.cell? ⟨w2.heap.size, 3, none⟩ = some (.bool X.last) ∧ W.cell? ⟨w2.heap.size, 4, none⟩ = some (.int .u64 (X.ep : Int)) ∧ W.cell? ⟨w2.heap.size, 5, none⟩ = some (.int .u64 (X.fl : Int)) ∧ W.cell? ⟨w2.heap.size, 6, none⟩ = some (.int .u64 (X.un : Int)) ∧ W.cell? ⟨w2.heap.size, 7, none⟩ = some (.int .u64 (X.le : Int)) ∧ W.cell? ⟨w2.heap.size, 8, none⟩ = some (.int .u64 (X.st : Int)) ∧ W.cell? ⟨w2.heap.size, 9, none⟩ = some (.int .u64 (X.ti : Int)) ∧ W.cell? ⟨w2.heap.size, 10, none⟩ = some (.slice A2 X.n c2) ∧ W.cell? ⟨w2.heap.size, 11, none⟩ = some (.slice G2 X.m d2))) W) := Lib.hid fun W hW => by
        have k4 := HK4.out.1.below hW HK4.out.1.lt
        have k2 := (HS2.out.1.step (below_next HJ.out (below_next HK4.out.2.1 hW))).2 _ (List.mem_cons_self ..)
        exact ⟨⟨k4.cell 0, k4.cell 1, k4.cell 2, k4.cell 3, k4.cell 4, k4.cell 5, k4.cell 6, k4.cell 7, k4.cell 8, k4.cell 9, k4.cell 10, k4.cell 11⟩, ⟨k2.cell 0, k2.cell 1, k2.cell 2, k2.cell 3, k2.cell 4, k2.cell 5, k2.cell 6, k2.cell 7, k2.cell 8, k2.cell 9, k2.cell 10, k2.cell 11⟩⟩
      have IN4 : Hid (∀ W, Below W4.heap.size W4 W → (X.at_ A4 c4 G4 d4).In W W.heap.size R N) := Lib.hid fun W hW => ⟨RowsIn.of_own (own_below HK4.out.2.2.1 hW), PansIn.of_own (own_below HK4.out.2.2.2 hW)⟩
      have IN2 : Hid (∀ W, Below W4.heap.size W4 W → (X.at_ A2 c2 G2 d2).In W W.heap.size R N) := Lib.hid fun W hW => by
        have h := below_next HJ.out (below_next HK4.out.2.1 hW)
        exact ⟨RowsIn.of_own (own_below HS2.out.2.2.1 h), PansIn.of_own (own_below HS2.out.2.2.2 h)⟩
      have D0 : Below W4.heap.size W4 W4.drew := (Below.refl _ _).drew
      clear K4 D4 O4 P4
      go_region_held3 (fun W => (W.cell? ⟨w4.heap.size, 0, none⟩ = some (.int .u8 (X.k : Int)) ∧ W.cell? ⟨w4.heap.size, 1, none⟩ = some (.int .u32 (X.id : Int)) ∧ W.cell? ⟨w4.heap.size, 2, none⟩ = some (.int .u16 (X.code : Int)) ∧ W.cell? ⟨w4.heap.size, 3, none⟩ = some (.bool X.last) ∧ W.cell? ⟨w4.heap.size, 4, none⟩ = some (.int .u64 (X.ep : Int)) ∧ W.cell? ⟨w4.heap.size, 5, none⟩ = some (.int .u64 (X.fl : Int)) ∧ W.cell? ⟨w4.heap.size, 6, none⟩ = some (.int .u64 (X.un : Int)) ∧ W.cell? ⟨w4.heap.size, 7, none⟩ = some (.int .u64 (X.le : Int)) ∧ W.cell? ⟨w4.heap.size, 8, none⟩ = some (.int .u64 (X.st : Int)) ∧ W.cell? ⟨w4.heap.size, 9, none⟩ = some (.int .u64 (X.ti : Int)) ∧ W.cell? ⟨w4.heap.size, 10, none⟩ = some (.slice A4 X.n c4) ∧ W.cell? ⟨w4.heap.size, 11, none⟩ = some (.slice G4 X.m d4)) ∧ (W.cell? ⟨w2.heap.size, 0, none⟩ = some (.int .u8 (X.k : Int)) ∧ W.cell? ⟨w2.heap.size, 1, none⟩ = some (.int .u32 (X.id : Int)) ∧ W.cell? ⟨w2.heap.size, 2, none⟩ = some (.int .u16 (X.code : Int)) ∧ W.cell? ⟨w2.heap.size, 3, none⟩ = some (.bool X.last) ∧ W.cell? ⟨w2.heap.size, 4, none⟩ = some (.int .u64 (X.ep : Int)) ∧ W.cell? ⟨w2.heap.size, 5, none⟩ = some (.int .u64 (X.fl : Int)) ∧ W.cell? ⟨w2.heap.size, 6, none⟩ = some (.int .u64 (X.un : Int)) ∧ W.cell? ⟨w2.heap.size, 7, none⟩ = some (.int .u64 (X.le : Int)) ∧ W.cell? ⟨w2.heap.size, 8, none⟩ = some (.int .u64 (X.st : Int)) ∧ W.cell? ⟨w2.heap.size, 9, none⟩ = some (.int .u64 (X.ti : Int)) ∧ W.cell? ⟨w2.heap.size, 10, none⟩ = some (.slice A2 X.n c2) ∧ W.cell? ⟨w2.heap.size, 11, none⟩ = some (.slice G2 X.m d2))) (first | with_reducible exact PC.out _ D0 | with_reducible exact PC.out _ D1 | with_reducible exact PC.out _ D2) (first
        | (go_at_call 22; (refine (CS.out _ A5 c5 G5 d5 A2 c2 G2 d2 IN5 (IN2.out _ D1)).mono ?_); rintro e v2 ⟨rfl, q2⟩; have D2 := below_next D1 q2; clear D1 q2 IN5)
        | (go_at_call 9; (refine (CD.out _ A4 c4 G4 d4 (IN4.out _ D0)).mono ?_); rintro e v1 ⟨A5, c5, G5, d5, rfl, IN5, q1⟩; have D1 := below_next D0 q1; clear D0 q1))
      have kc := PC.out _ D2
      have HD2 := Lib.hid D2
      obtain ⟨kq, -⟩ := kc
      obtain ⟨-, -, -, -, -, -, -, -, -, -, r10, r11⟩ := kq
      clear D2
      go_wp2_with fail
      refine (spoilRows_any _ X.n c4 A4 (rcells R) _ (own_below HK4.out.2.2.1 HD2.out) (by have := HF.out.1; omega)).mono ?_
      rintro e w6 ⟨rfl, g6⟩
      have hz : W4.heap.size ≤ v2.heap.size := HD2.out.size
      have o6 := own_below HK4.out.2.2.1 HD2.out
      have p6 := own_below HK4.out.2.2.2 HD2.out
      have p6' := p6.kept g6 (own_two8 p6 o6 (by decide))
      have B5 := below_next HK4.out.2.1 HD2.out
      have B6 := grow_own B5 o6 (Nat.le_refl _) g6
      have l6 : w4.heap.size < W4.heap.size := HK4.out.1.lt
      have s11 := g6.cell r11 (fun h => Nat.lt_irrefl _ (L4.out.1 _ h.symm))
      have HB6 := Lib.hid (And.intro B6 p6')
      clear hz o6 p6 p6' B5 B6 l6 r10 r11 g6
      go_wp2_with fail
      clear s11
      refine (spoilPanes_any _ X.m d4 G4 (pncells N) _ HB6.out.2 (by have := HF.out.2; omega)).mono ?_
      rintro e w7 ⟨rfl, g7⟩
      have B7 := Lib.hid (grow_own HB6.out.1 HB6.out.2 (Nat.le_refl _) g7)
      clear g7
      go_wp2_with fail
      exact ⟨⟨j + 1, by omega, by go_num, below_next HJ.out B7.out⟩, by simp [intOf]; omega⟩
    · have i2 : ¬ (j : Int) < 2 := by omega
      go_wp2_with fail
      refine (CK.out _ A1 c1 w1.heap.size (below_next HS2.out.1.1 HJ.out) (H1.out.1.below (below_next HS2.out.2.1 HJ.out) (Nat.le_refl _)) (below_next HS2.out.2.1 HJ.out).size).mono ?_
      rintro e w5 ⟨rfl, b5⟩
      have H5 := Lib.hid (below_next (below_next HS2.out.1.1 HJ.out) b5)
      clear b5
      go_wp2_with fail
      refine (works8_any _).mono ?_
      rintro e w6 ⟨rfl, b6⟩
      have H6 := Lib.hid (below_next H5.out b6)
      clear b6
      go_wp2_with fail
      go_ret
      exact ⟨rfl, H6.out⟩
end Go.Proofs.YtognlgklepgemaaGreat
