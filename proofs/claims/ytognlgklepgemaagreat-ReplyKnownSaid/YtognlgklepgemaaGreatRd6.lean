/- Layer 2's reference, as later stages lean on it: texts packed, numbers and texts taken. -/
import Derived.Test.YtognlgklepgemaaGreatNumbI
import Derived.Test.YtognlgklepgemaaGreatSpoil
import Derived.BigRegion
namespace Go.Proofs.YtognlgklepgemaaGreat
open Go.ChangeShapes Go.WideShapes Go.ChangeAt Go.RowKit

def OwnPost2 (w : World) (n : Nat) (l : List Nat) (err : Int) (e : Ending) (w' : World) : Prop :=
  ∃ A' c', e = .returned (.tuple #[.slice A' n c', .int .i64 err]) ∧ w'.ownsRow w.heap.size 5 1 (.slice A' n c') n (u8s l) ∧ Below w.heap.size w w'
set_option maxRecDepth 100000 in
theorem refText_any (s : ByteArray) (w : World) (hs : s.size ≤ 65535) :
    Calls Tryz.prog 81 #[.string s] w (OwnPost2 w (s.size + 2) (Pk.tx (nums s)) 0) := by
  obtain ⟨i0, hi, hz0, hz1, hz2⟩ := info_parts Tryz.info5
  have HI := Lib.hid hi
  have HZ0 := Lib.hid hz0
  have HZ1 := Lib.hid hz1
  have HZ2 := Lib.hid hz2
  clear hi hz0 hz1 hz2
  go_enter Tryz.func81, Tryz.ntmps81
  go_wp2_with fail
  refine (refNumber_any _ s.size 2 _ rfl (by omega) (by unfold Size; omega)).mono ?_
  rintro e w1 ⟨A1, c1, rfl, ho1, b1⟩
  have z1 := b1.size
  go_wp2_with (at_builtin; refine Lib.wpList_append_own_string _ rfl _ _ 33 9 rfl w.heap.size 5 i0 Tryz.underlying33 Tryz.underlying9 HI.out HZ0.out HZ1.out HZ2.out _ 2 _ rfl ho1 s rfl (by unfold maxLen; omega) (by omega) z1 ?_; intro v' w2 hown hgrow _)
  rw [strCells_nums, u8s_append, Nat.add_comm 2] at hown
  obtain ⟨A2, c2, rfl⟩ := own_slice hown
  have hb1 := grow_own b1 ho1 (Nat.le_refl _) hgrow
  have ho2 : w2.ownsRow w.heap.size 5 1 (.slice A2 (s.size + 2) c2) (s.size + 2) (u8s (Pk.tx (nums s))) := by
    unfold Pk.tx
    rw [nums_len]
    exact hown
  clear hgrow ho1 b1 hown
  go_ret2
  exact ⟨A2, c2, rfl, ho2, hb1⟩
theorem refText_long (s : ByteArray) (w : World) (hs : 65535 < s.size) :
    Calls Tryz.prog 81 #[.string s] w fun e w' => e = .returned (.tuple #[.slice none 0 0, .int .i64 3]) ∧ w = w' := by
  go_enter Tryz.func81, Tryz.ntmps81
  go_wp2_with fail
  go_ret2
  exact ⟨rfl, rfl⟩
theorem tlen_lt (f : Bool) (l : List Nat) (h : ∀ x ∈ l, x < 256) : Pk.tlen f l < 65536 := Pk.taken_num_lt f l 2 h
/-- Where the document's reader stands behind k bytes. -/
def goes (f : Bool) (l : List Nat) (at_ k : Nat) : Nat := if Pk.fails f l k = true then at_ else at_ + k
theorem goes_yes {f : Bool} {l : List Nat} {a k : Nat} (h : Pk.fails f l k = true) : goes f l a k = a := by unfold goes; rw [if_pos h]
theorem goes_no {f : Bool} {l : List Nat} {a k : Nat} (h : Pk.fails f l k = false) : goes f l a k = a + k := by unfold goes; rw [if_neg (by simp [h])]
/-- The document's reader, as a value. -/
abbrev rv (A : Option Addr) (n c a : Nat) (f : Bool) : Value := .agg #[.slice A n c, .int .i64 (a : Int), .bool f]
def RTake (w : World) (A : Option Addr) (n c a k : Nat) (b : List Nat) (f : Bool) (e : Ending) (w' : World) : Prop :=
  e = .returned (.tuple #[.int .u64 ((Pk.num (Pk.taken f (b.drop a) k) : Nat) : Int), rv A n c (goes f (b.drop a) a k) (Pk.fails f (b.drop a) k)]) ∧ Below w.heap.size w w'
theorem drop_getD (b : List Nat) (a i : Nat) : (b.drop a).getD i 0 = b.getD (a + i) 0 := by
  rw [List.getD_eq_getElem?_getD, List.getD_eq_getElem?_getD, List.getElem?_drop]
theorem below_2d (w : World) (o o' : Obj) : Below w.heap.size w ((w.alloc o).alloc o').drew := (((Below.refl _ _).alloc (Nat.le_refl _) _).alloc (by simp) _).drew
set_option maxRecDepth 100000 in
set_option maxHeartbeats 1000000 in
theorem refTake_any (n c a k B : Nat) (A : Option Addr) (b : List Nat) (f : Bool) (w : World) (hb : Bytes w B A n b) (hB : B ≤ w.heap.size) (hn : n ≤ 1000000) (ha : a ≤ n) (hk : k ≤ 8) :
    Calls Tryz.prog 64 #[rv A n c a f, .int .i64 (k : Int)] w (RTake w A n c a k b f) := by
  have hbl : b.length = n := hb.1
  have HBL := Lib.hid hbl
  have hdl : (b.drop a).length = n - a := by rw [List.length_drop, hbl]
  have HDL := Lib.hid hdl
  have HB := Lib.hid hb
  clear hbl hdl hb
  unfold rv
  by_cases hf : f = true
  · subst hf
    have HF := Lib.hid (Pk.fails_yes (f := true) (l := b.drop a) (k := k) (.inl rfl))
    go_enter Tryz.func64, Tryz.ntmps64
    go_wp2_with fail
    go_region
    all_goals
      go_wp2_with fail
      refine bodyPost_ret (v := .tuple #[.int .u64 0, .agg #[.slice A n c, .int .i64 (a : Int), .bool true]]) ?_ rfl ⟨?_, ?_⟩
      · simp [results, Tryz.results64, go_sem]
      · rw [Pk.taken_yes HF.out, goes_yes HF.out, HF.out]; rfl
      · exact below_2d w _ _
  · obtain rfl : f = false := by simpa using hf
    clear hf
    by_cases hlt : n < a + k
    · have HF := Lib.hid (Pk.fails_yes (f := false) (l := b.drop a) (k := k) (.inr (by have := HDL.out; omega)))
      have hlt' : (n : Int) - a < k := by omega
      go_enter Tryz.func64, Tryz.ntmps64
      go_wp2_with fail
      go_region
      all_goals
        go_wp2_with fail
        refine bodyPost_ret (v := .tuple #[.int .u64 0, .agg #[.slice A n c, .int .i64 (a : Int), .bool true]]) ?_ rfl ⟨?_, ?_⟩
        · simp [results, Tryz.results64, go_sem]
        · rw [Pk.taken_yes HF.out, goes_yes HF.out, HF.out]; rfl
        · exact below_2d w _ _
    · have HF := Lib.hid (Pk.fails_no (l := b.drop a) (k := k) (by have := HDL.out; omega))
      have hlt' : (k : Int) ≤ (n : Int) - a := by omega
      have hb2 := ((HB.out.alloc hB (.cells #[.slice A n c, .int .i64 (a : Int), .bool false] 117)).alloc (by simp; omega) (.cells #[.slice none 0 0, .int .i64 0, .bool false] 117))
      have HB2 := Lib.hid hb2
      have HX := Lib.hid HB.out.2.1
      clear hb2
      go_enter Tryz.func64, Tryz.ntmps64
      go_wp2_with fail
      go_loop [6, 7] (fun t i => ∃ j x : Nat, j ≤ k ∧ i = .int .i64 j ∧ Pk.num ((b.drop a).take j) = x ∧ t = .int .u64 (x : Int)) (fun _ i => k - (intOf i).toNat)
      case atStart => exact ⟨0, 0, by omega, rfl, rfl, rfl⟩
      case round =>
        obtain ⟨j, x, hj, rfl, hx, rfl⟩ := hrel
        by_cases hjk : j < k
        · obtain ⟨bb, off, rfl, hbB, hc⟩ := HB2.out.2.2 (by omega)
          have hck := hc (a + j) (by omega)
          have h8 := HB2.out.lt (a + j)
          have hst : Pk.num ((b.drop a).take (j + 1)) = Pk.num ((b.drop a).take j) * 256 + b.getD (a + j) 0 := by
            rw [take_snoc (b.drop a) j (by have := HDL.out; omega), Pk.num_snoc, drop_getD]
          have hx7 : x < 72057594037927936 := by
            rw [← hx]
            exact Nat.lt_of_lt_of_le (Pk.num_take_lt (b.drop a) j (fun y hy => HX.out y (List.mem_of_mem_drop hy)) (by have := HDL.out; omega)) (Nat.le_trans (Nat.pow_le_pow_right (by decide) (show j ≤ 7 by omega)) (by decide))
          rw [hx] at hst
          have HS := Lib.hid hst
          clear hc hx hst
          generalize b.getD (a + j) 0 = y at *
          go_wp2_with fail
          go_round
          case rel => exact ⟨j + 1, x * 256 + y, by omega, by go_num, HS.out, by go_num⟩
          case measure => simp [intOf]; omega
        · obtain rfl : k = j := by omega
          have HXX := Lib.hid hx
          clear hx
          go_wp2_with fail
          go_region
          all_goals
            go_wp2_with fail
            refine bodyPost_ret (v := .tuple #[.int .u64 (x : Int), .agg #[.slice A n c, .int .i64 ((a : Int) + k), .bool false]]) ?_ rfl ⟨?_, ?_⟩
            · simp [results, Tryz.results64, go_sem]
            · rw [Pk.taken_no HF.out, goes_no HF.out, HF.out, HXX.out]; rfl
            · exact below_2d w _ _
def tgoes (f : Bool) (l : List Nat) (a : Nat) : Nat := if Pk.tfails f l = true then a else a + (2 + Pk.tlen f l)
theorem tgoes_yes {f : Bool} {l : List Nat} {a : Nat} (h : Pk.tfails f l = true) : tgoes f l a = a := by unfold tgoes; rw [if_pos h]
theorem tgoes_no {f : Bool} {l : List Nat} {a : Nat} (h : Pk.tfails f l = false) : tgoes f l a = a + (2 + Pk.tlen f l) := by unfold tgoes; rw [if_neg (by simp [h])]
def RText (w : World) (A : Option Addr) (n c a : Nat) (b : List Nat) (f : Bool) (e : Ending) (w' : World) : Prop :=
  e = .returned (.tuple #[.string (textOf (Pk.ttaken f (b.drop a))), rv A n c (tgoes f (b.drop a) a) (Pk.tfails f (b.drop a))]) ∧ Below w.heap.size w w'
theorem cut_lh {P : Program} (t e : TypeId) (i : TypeInfo) (ht : P.underlying t = some (.slice e)) (hi : P.info? e = some i) (hz : i.size = 1) (A : Option Addr) (len cap l h : Nat) (u v : Int) (hu : u = l) (hv : v = h) (h1 : l ≤ h) (h2 : h ≤ cap) :
    ∀ W : World, (Instr.sliceAt t (.slice A len cap) (some (.int .i64 u)) (some (.int .i64 v)) none).run P W = .ok (.slice (if cap = l then A else A.map (·.add l)) (h - l) (cap - l)) W := by
  subst hu
  exact run_cut_lh t e i ht hi hz A len cap l h v hv h1 h2
theorem cells3 {w : World} {g : Nat} {t : TypeId} {x y z : Value} (h : Blk w g t #[x, y, z]) : w.cell? ⟨g, 0, none⟩ = some x ∧ w.cell? ⟨g, 1, none⟩ = some y ∧ w.cell? ⟨g, 2, none⟩ = some z ∧ w.frozen? ⟨g, 0, none⟩ = false ∧ w.frozen? ⟨g, 1, none⟩ = false ∧ w.frozen? ⟨g, 2, none⟩ = false :=
  ⟨h.cell 0, h.cell 1, h.cell 2, h.frozen 0, h.frozen 1, h.frozen 2⟩
def ConvAll (wo : World) (A : Option Addr) (n c : Nat) (T : ByteArray) : Prop := ∀ W : World, Below wo.heap.size wo W → (convert 33 9 (.slice A n c)).run Tryz.prog W = .ok (.string T) W
theorem conv_all {wo : World} {n c B : Nat} {A : Option Addr} {l : List Nat} (h : Bytes wo B A n l) (hB : B ≤ wo.heap.size) : ConvAll wo A n c (textOf l) := fun _ hW => (conv_bytes (h.below hW hB)).2.2
theorem below_3s {w w2 : World} {g : Nat} (h : Below w.heap.size w w2) (hg : w.heap.size ≤ g) (x y z : Value) : Below w.heap.size w (((w2.setCell ⟨g, 0, none⟩ x).setCell ⟨g, 1, none⟩ y).setCell ⟨g, 2, none⟩ z).drew := (((h.setCell hg x).setCell hg y).setCell hg z).drew
theorem below_3s' {w w2 : World} {g : Nat} (h : Below w.heap.size w w2) (hg : w.heap.size ≤ g) (x y z : Value) : Below w.heap.size w (((w2.drew.setCell ⟨g, 0, none⟩ x).setCell ⟨g, 1, none⟩ y).setCell ⟨g, 2, none⟩ z) := (((h.drew.setCell hg x).setCell hg y).setCell hg z)
theorem cell_3s {w : World} {g : Nat} (x y z : Value) (b o : Nat) (h : b ≠ g) : (((w.setCell ⟨g, 0, none⟩ x).setCell ⟨g, 1, none⟩ y).setCell ⟨g, 2, none⟩ z).drew.cell? ⟨b, o, none⟩ = w.cell? ⟨b, o, none⟩ := by
  have hb : ∀ W : World, ∀ i v, (W.setCell ⟨g, i, none⟩ v).cell? ⟨b, o, none⟩ = W.cell? ⟨b, o, none⟩ := fun W i v => World.cell?_of_block (a := ⟨b, o, none⟩) (Below.heap_setCell W ⟨g, i, none⟩ v b h)
  show (((w.setCell ⟨g, 0, none⟩ x).setCell ⟨g, 1, none⟩ y).setCell ⟨g, 2, none⟩ z).cell? ⟨b, o, none⟩ = w.cell? ⟨b, o, none⟩
  rw [hb, hb, hb]
theorem cell_3s' {w : World} {g : Nat} (x y z : Value) (b o : Nat) (h : b ≠ g) : (((w.drew.setCell ⟨g, 0, none⟩ x).setCell ⟨g, 1, none⟩ y).setCell ⟨g, 2, none⟩ z).cell? ⟨b, o, none⟩ = w.cell? ⟨b, o, none⟩ := by
  have hb : ∀ W : World, ∀ i v, (W.setCell ⟨g, i, none⟩ v).cell? ⟨b, o, none⟩ = W.cell? ⟨b, o, none⟩ := fun W i v => World.cell?_of_block (a := ⟨b, o, none⟩) (Below.heap_setCell W ⟨g, i, none⟩ v b h)
  rw [hb, hb, hb]
  rfl
set_option maxRecDepth 100000 in
set_option maxHeartbeats 2000000 in
theorem refTakeText_any (n c a B : Nat) (A : Option Addr) (b : List Nat) (f : Bool) (w : World) (hb : Bytes w B A n b) (hB : B ≤ w.heap.size) (hn : n ≤ 1000000) (ha : a ≤ n) (hnc : n ≤ c) :
    Calls Tryz.prog 85 #[rv A n c a f] w (RText w A n c a b f) := by
  obtain ⟨i0, hi, hz0, hz1, hz2⟩ := info_parts Tryz.info5
  have HI := Lib.hid hi
  have HZ1 := Lib.hid hz1
  clear hi hz0 hz1 hz2
  have HDL := Lib.hid (show (b.drop a).length = n - a from by rw [List.length_drop, hb.1])
  have hm := tlen_lt f (b.drop a) (fun y hy => hb.2.1 y (List.mem_of_mem_drop hy))
  have hb2 := ((hb.alloc hB (.cells #[.slice A n c, .int .i64 (a : Int), .bool f] 117)).alloc (by simp; omega) (.cells #[.slice none 0 0, .int .i64 0, .bool false] 117))
  have HB := Lib.hid hb
  have HB2 := Lib.hid hb2
  clear hb hb2
  unfold rv
  go_enter Tryz.func85, Tryz.ntmps85
  go_wp2_with fail
  refine (refTake_any n c a 2 B A b f _ HB2.out (by simp; omega) hn ha (by omega)).mono ?_
  rintro e w1 ⟨rfl, b1⟩
  have k0 : Blk w1 w.heap.size 117 #[.slice A n c, .int .i64 (a : Int), .bool f] := Blk.below (w := (w.alloc (.cells #[.slice A n c, .int .i64 (a : Int), .bool f] 117)).alloc (.cells #[.slice none 0 0, .int .i64 0, .bool false] 117)) ((heap_alloc_old _ _ (by simp)).trans (Blk.new w _ _)) b1 (by simp; omega)
  have k1 : Blk w1 (w.heap.size + 1) 117 #[.slice none 0 0, .int .i64 0, .bool false] := by
    have h := Blk.new (w.alloc (.cells #[.slice A n c, .int .i64 (a : Int), .bool f] 117)) 117 #[.slice none 0 0, .int .i64 0, .bool false]
    simp at h
    exact h.below b1 (by simp)
  have z1 : w.heap.size + 1 < w1.heap.size := by have := b1.size; simp at this; omega
  have d1 : Below w.heap.size w w1 := (((Below.refl _ _).alloc (Nat.le_refl _) _).alloc (by simp) _).trans (b1.mono (by simp; omega))
  obtain ⟨p0, p1, p2, -⟩ := cells3 k0
  have K0 := Lib.hid k0
  have K1 := Lib.hid k1
  rw [show Pk.num (Pk.taken f (b.drop a) 2) = Pk.tlen f (b.drop a) from rfl]
  have HT := Lib.hid (Pk.tfails_iff (f := f) (l := b.drop a))
  obtain ⟨m, hme⟩ : ∃ m, Pk.tlen f (b.drop a) = m := ⟨_, rfl⟩
  rw [hme] at hm ⊢
  have HM := Lib.hid hme
  unfold rv
  clear hme b1 k0 k1
  rcases Bool.eq_false_or_eq_true (Pk.fails f (b.drop a) 2) with h2 | h2
  · have HTF := Lib.hid (show Pk.tfails f (b.drop a) = true from by
      rcases Bool.eq_false_or_eq_true (Pk.tfails f (b.drop a)) with h | h
      · exact h
      · have := (HT.out.1 h).1; rw [h2] at this; cases this)
    rw [goes_yes h2, h2]
    clear h2
    have e2 : Below w1.heap.size w1 (w1.alloc (.cells #[.slice A n c, .int .i64 (a : Int), .bool true] 117)) := (Below.refl _ _).alloc (Nat.le_refl _) _
    have kn : Blk (w1.alloc (.cells #[.slice A n c, .int .i64 (a : Int), .bool true] 117)) w1.heap.size 117 #[.slice A n c, .int .i64 (a : Int), .bool true] := Blk.new w1 _ _
    obtain ⟨r0, r1, r2, -⟩ := cells3 (K0.out.below e2 (by omega))
    obtain ⟨u0, u1, u2, -⟩ := cells3 kn
    obtain ⟨q0, q1, q2, y0, y1, y2⟩ := cells3 (K1.out.below e2 z1)
    have d2 := d1.trans (e2.mono d1.size)
    clear e2 p0 p1 p2 kn
    go_wp2_with fail
    generalize w1.alloc (.cells #[.slice A n c, .int .i64 (a : Int), .bool true] 117) = w2 at *
    go_region
    all_goals
      go_wp2_with fail
      refine bodyPost_ret (v := .tuple #[.string ⟨#[]⟩, .agg #[.slice A n c, .int .i64 (a : Int), .bool true]]) ?_ rfl ⟨?_, ?_⟩
      · simp [results, Tryz.results85, go_sem, q0, q1, q2]
        done
      · rw [Pk.ttaken_yes HTF.out, tgoes_yes HTF.out, HTF.out]; rfl
      · exact below_3s d2 (by omega) _ _ _
  · have HH2 := Lib.hid h2
    rw [goes_no h2, h2]
    have ha2 : a + 2 ≤ n := by have := (Pk.fails_iff.1 h2).2; have := HDL.out; omega
    clear h2
    obtain ⟨a2, hae⟩ : ∃ a2, a + 2 = a2 := ⟨_, rfl⟩
    rw [hae] at ha2 ⊢
    have HA := Lib.hid hae
    clear hae
    by_cases hlt : n < a2 + m
    · have HTF := Lib.hid (show Pk.tfails f (b.drop a) = true from by
        rcases Bool.eq_false_or_eq_true (Pk.tfails f (b.drop a)) with h | h
        · exact h
        · have h3 := (HT.out.1 h).2; rw [HM.out, HDL.out] at h3; have := HA.out; omega)
      have hlt' : (n : Int) - a2 < m := by omega
      have e2 : Below w1.heap.size w1 (w1.alloc (.cells #[.slice A n c, .int .i64 (a2 : Int), .bool false] 117)) := (Below.refl _ _).alloc (Nat.le_refl _) _
      have kn : Blk (w1.alloc (.cells #[.slice A n c, .int .i64 (a2 : Int), .bool false] 117)) w1.heap.size 117 #[.slice A n c, .int .i64 (a2 : Int), .bool false] := Blk.new w1 _ _
      obtain ⟨r0, r1, r2, -⟩ := cells3 (K0.out.below e2 (by omega))
      obtain ⟨u0, u1, u2, -⟩ := cells3 kn
      obtain ⟨q0, q1, q2, y0, y1, y2⟩ := cells3 (K1.out.below e2 z1)
      have d2 := d1.trans (e2.mono d1.size)
      clear e2 p0 p1 p2 kn
      go_wp2_with fail
      generalize w1.alloc (.cells #[.slice A n c, .int .i64 (a2 : Int), .bool false] 117) = w2 at *
      go_region
      all_goals
        go_wp2_with fail
        refine bodyPost_ret (v := .tuple #[.string ⟨#[]⟩, .agg #[.slice A n c, .int .i64 (a : Int), .bool true]]) ?_ rfl ⟨?_, ?_⟩
        · simp [results, Tryz.results85, go_sem, q0, q1, q2]
          done
        · rw [Pk.ttaken_yes HTF.out, tgoes_yes HTF.out, HTF.out]; rfl
        · exact below_3s d2 (by omega) _ _ _
    · have HTF := Lib.hid (show Pk.tfails f (b.drop a) = false from HT.out.2 ⟨HH2.out, by rw [HM.out, HDL.out]; have := HA.out; omega⟩)
      have hlt' : (m : Int) ≤ (n : Int) - a2 := by omega
      have hcut := cut_lh (P := Tryz.prog) 33 5 i0 Tryz.underlying33 HI.out HZ1.out A n c a2 (a2 + m) (a2 : Int) ((a2 : Int) + m) rfl (by omega) (by omega) (by omega)
      rw [Nat.add_sub_cancel_left] at hcut
      have hby := (HB.out.cut (i := a2) ha2 hnc).head (j := m) (by omega)
      have hC := conv_all (c := c - a2) hby hB
      have hwm : IntKind.i64.wrap ((a2 : Int) + m) = (a2 : Int) + m := by rw [IntKind.wrap_i64]; omega
      have hwm0 : IntKind.i64.wrap (m : Int) = (m : Int) := by rw [IntKind.wrap_i64]; omega
      generalize (if c = a2 then A else A.map (·.add a2)) = A2 at *
      obtain ⟨T, hT⟩ : ∃ T, textOf ((b.drop a2).take m) = T := ⟨_, rfl⟩
      rw [hT] at hC
      have HTX := Lib.hid hT
      have HC := Lib.hid hC
      clear hT hby hC
      have e2 : Below w1.heap.size w1 (w1.alloc (.cells #[.slice A n c, .int .i64 (a2 : Int), .bool false] 117)) := (Below.refl _ _).alloc (Nat.le_refl _) _
      have kn : Blk (w1.alloc (.cells #[.slice A n c, .int .i64 (a2 : Int), .bool false] 117)) w1.heap.size 117 #[.slice A n c, .int .i64 (a2 : Int), .bool false] := Blk.new w1 _ _
      obtain ⟨r0, r1, r2, -⟩ := cells3 (K0.out.below e2 (by omega))
      obtain ⟨u0, u1, u2, -⟩ := cells3 kn
      obtain ⟨q0, q1, q2, y0, y1, y2⟩ := cells3 (K1.out.below e2 z1)
      have d2 := d1.trans (e2.mono d1.size)
      clear e2 p0 p1 p2 kn
      go_wp2_with fail
      generalize w1.alloc (.cells #[.slice A n c, .int .i64 (a2 : Int), .bool false] 117) = w2 at *
      have HS := Lib.hid (show ∀ W : World, Below w.heap.size w W → (∀ b o, b ≠ w.heap.size + 1 → W.cell? ⟨b, o, none⟩ = w2.cell? ⟨b, o, none⟩) → W.cell? ⟨w.heap.size, 0, none⟩ = some (.slice A n c) ∧ W.cell? ⟨w1.heap.size, 1, none⟩ = some (.int .i64 (a2 : Int)) ∧ (convert 33 9 (.slice A2 m (c - a2))).run Tryz.prog W = .ok (.string T) W from fun W hW hk => ⟨(hk _ _ (by omega)).trans r0, (hk _ _ (by omega)).trans u1, HC.out W hW⟩)
      go_region_held3 (fun w' => w'.cell? ⟨w.heap.size, 0, none⟩ = some (.slice A n c) ∧ w'.cell? ⟨w1.heap.size, 1, none⟩ = some (.int .i64 (a2 : Int)) ∧ (convert 33 9 (.slice A2 m (c - a2))).run Tryz.prog w' = .ok (.string T) w') (first | exact HS.out _ d2.drew (fun _ _ _ => rfl) | exact HS.out _ (below_3s d2 (by omega) _ _ _) (cell_3s _ _ _) | exact HS.out _ (below_3s' d2 (by omega) _ _ _) (cell_3s' _ _ _)) (fail)
      go_wp2_with fail
      refine bodyPost_ret (v := .tuple #[.string T, .agg #[.slice A n c, .int .i64 ((a2 : Int) + m), .bool false]]) ?_ rfl ⟨?_, ?_⟩
      · simp [results, Tryz.results85, go_sem, q0, q1, q2]
        done
      · have e1 : Pk.ttaken f (b.drop a) = (b.drop a2).take m := by rw [Pk.ttaken_no HTF.out, HM.out, List.drop_drop, HA.out]
        have e2 : tgoes f (b.drop a) a = a2 + m := by rw [tgoes_no HTF.out, HM.out, ← HA.out]; omega
        rw [e1, e2, HTF.out, HTX.out]
        rfl
      · first | exact below_3s d2 (by omega) _ _ _ | exact below_3s' d2 (by omega) _ _ _
end Go.Proofs.YtognlgklepgemaaGreat
