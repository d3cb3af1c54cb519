/- Layer 9, the program: parts shown to a visitor, of whatever kind it is. -/
import Derived.Test.YtgailpljcobabaaDoorRqA
import Derived.StillTailTactics
import Derived.Lib.OthersKept
import Derived.Laws.RangeAny
namespace Go.Proofs.YtgailpljcobabaaDoor
open Go.ChangeShapes Go.WideShapes Go.ChangeAt Go.RowKit

/-- A visitor of type T has the method, which is function fn, called on recv. -/
structure Vis (T : TypeId) (v : Value) (nm : String) (fn : FuncId) (recv : Value) : Prop where
  ahead : ∀ w : World, (nilAhead 239 T v nm).run Tryd.prog w = .ok (some false) w
  ent : ∀ (args : Array Value) (w : World), (callFunc fn args).run Tryd.prog w = .ok (.enter fn args) w
  meth : ∀ w : World, (method 239 T v nm).run Tryd.prog w = .ok (fn, recv) w
/-- A visitor: its five methods; which one a field is shown to. -/
structure Visitor (T : TypeId) (v recv : Value) (f : Nat → FuncId) : Prop where
  u8 : ∀ i, i = 2 ∨ i = 6 → Vis T v "tidepool/request.u8" (f i) recv
  u16 : Vis T v "tidepool/request.u16" (f 3) recv
  u64 : ∀ i, i = 4 ∨ i = 5 → Vis T v "tidepool/request.u64" (f i) recv
  text : ∀ i, i = 7 ∨ i = 8 → Vis T v "tidepool/request.text" (f i) recv
  whole : ∀ i, i = 9 ∨ i = 10 → Vis T v "tidepool/request.whole" (f i) recv
/-- Iterators over texts stay. -/
def Its (w w' : World) : Prop := ∀ (g : Nat) (s : ByteArray) (p : Nat), w.heap[g]? = some (Obj.stringIter s p) → w'.heap[g]? = some (Obj.stringIter s p)
theorem Its.trans {a b c : World} (h : Its a b) (k : Its b c) : Its a c := fun g s p hb => k g s p (h g s p hb)
theorem Its.refl (a : World) : Its a a := fun _ _ _ h => h
theorem it_lt {w : World} {g : Nat} {s : ByteArray} {p : Nat} (h : w.heap[g]? = some (.stringIter s p)) : g < w.heap.size := (Array.getElem?_eq_some_iff.1 h).1
theorem Its.below {w w' : World} (h : Below w.heap.size w w') : Its w w' := fun g _ _ hb => (h.block g (it_lt hb)).trans hb
theorem Its.grown {w w' : World} {g : Nat} {t : TypeId} {cs : Array Value} (h : w.grownBy w' (some g)) (hg : Blk w g t cs) : Its w w' := fun k _ _ hb => (h.block k (it_lt hb) (fun e => by
  injection e with e
  subst e
  unfold Blk at hg
  rw [hg] at hb
  cases hb)).trans hb
theorem it_ne {w : World} {g g' : Nat} {s : ByteArray} {p : Nat} {t : TypeId} {cs : Array Value} (h : w.heap[g]? = some (.stringIter s p)) (h' : Blk w g' t cs) : g' ≠ g := fun e => by
  subst e
  unfold Blk at h'
  rw [h'] at h
  cases h
/-- What a visitor's calls carry along: Inv of the fields shown so far. -/
structure Steps (B R : Nat) (recv : Value) (f : Nat → FuncId) (Inv : List Nat → World → Prop) : Prop where
  below : ∀ l w w', Inv l w → Below w.heap.size w w' → Inv l w'
  step : ∀ l i w, l.length ≤ 30 → 2 ≤ i ∧ i ≤ 10 → Inv l w → Calls Tryd.prog (f i) #[recv, .pointer (some ⟨R, i, none⟩)] w fun e w' => e = .returned (.tuple #[]) ∧ Inv (l ++ [i]) w' ∧ Its w w'
  iter : ∀ l w g s p q, B ≤ g → Inv l w → w.heap[g]? = some (.stringIter s p) → Inv l (w.iterAt g s q)
section
variable {B R T : Nat} {v recv : Value} {f : Nat → FuncId} {Inv : List Nat → World → Prop}
theorem Steps.drew (hs : Steps B R recv f Inv) {l : List Nat} {w : World} (h : Inv l w) : Inv l w.drew := hs.below l w _ h (Below.refl _ _).drew
theorem Steps.go (hs : Steps B R recv f Inv) {l : List Nat} {i : Nat} {w : World} (hl : l.length ≤ 30) (hi : 2 ≤ i ∧ i ≤ 10) (h : Inv l w) : Calls Tryd.prog (f i) #[recv, .pointer (some ⟨R, i, none⟩)] w.drew fun e w' => e = .returned (.tuple #[]) ∧ Inv (l ++ [i]) w' ∧ Its w w' :=
  (hs.step l i w.drew hl hi (hs.drew h)).mono fun _ _ hp => ⟨hp.1, hp.2.1, (Its.below (Below.refl _ w).drew).trans hp.2.2⟩
end
set_option maxRecDepth 100000 in
set_option maxHeartbeats 4000000 in
theorem visitPanes_any (B R T : Nat) (v recv : Value) (f : Nat → FuncId) (Inv : List Nat → World → Prop) (hs : Steps B R recv f Inv) (hv : Visitor T v recv f) (l : List Nat) (hl : l.length ≤ 20) (w : World) (h : Inv l w) :
    Calls Tryd.prog 51 #[.pointer (some ⟨R, 0, none⟩), .iface T v] w fun e w' => e = .returned (.tuple #[]) ∧ Inv (l ++ [6, 7, 8, 9, 10]) w' ∧ Its w w' := by
  have hmf : ∀ (fn : Fn) (first cap : Array Value) (w : World), (Instr.makeFunc fn first cap).run Tryd.prog w = .ok (.func fn first cap) w := fun _ _ _ _ => rfl
  have HS := Lib.hid hs
  have HV := Lib.hid hv
  have H0 := Lib.hid (hs.go (i := 6) (by omega) (by omega) h)
  have h1 := (hv.u8 6 (by omega)).ahead
  have h2 := (hv.u8 6 (by omega)).meth
  have h3 := (hv.u8 6 (by omega)).ent
  clear h hs hv
  go_enter Tryd.func51, Tryd.ntmps51
  go_wp2_with fail
  go_still_tail 7, (by kernel_rfl)
  change wpList _ _ _ _ _ w.drew
  go_wp2_with fail
  refine H0.out.mono ?_
  clear h1 h2 h3
  rintro e w1 ⟨rfl, q, it⟩
  have I1 := Lib.hid it
  have H1 := Lib.hid (HS.out.go (i := 7) (by simp; omega) (by omega) q)
  have h1 := (HV.out.text 7 (by omega)).ahead
  have h2 := (HV.out.text 7 (by omega)).meth
  have h3 := (HV.out.text 7 (by omega)).ent
  clear q it
  go_wp2_with fail
  go_still_tail 7, (by kernel_rfl)
  change wpList _ _ _ _ _ w1.drew
  go_wp2_with fail
  refine H1.out.mono ?_
  clear h1 h2 h3
  rintro e w2 ⟨rfl, q, it⟩
  have I2 := Lib.hid (I1.out.trans it)
  have H2 := Lib.hid (HS.out.go (i := 8) (by simp; omega) (by omega) q)
  have h1 := (HV.out.text 8 (by omega)).ahead
  have h2 := (HV.out.text 8 (by omega)).meth
  have h3 := (HV.out.text 8 (by omega)).ent
  clear q it
  go_wp2_with fail
  go_still_tail 7, (by kernel_rfl)
  change wpList _ _ _ _ _ w2.drew
  go_wp2_with fail
  refine H2.out.mono ?_
  clear h1 h2 h3
  rintro e w3 ⟨rfl, q, it⟩
  have I3 := Lib.hid (I2.out.trans it)
  have H3 := Lib.hid (HS.out.go (i := 9) (by simp; omega) (by omega) q)
  have h1 := (HV.out.whole 9 (by omega)).ahead
  have h2 := (HV.out.whole 9 (by omega)).meth
  have h3 := (HV.out.whole 9 (by omega)).ent
  clear q it
  go_wp2_with fail
  go_still_tail 7, (by kernel_rfl)
  change wpList _ _ _ _ _ w3.drew
  go_wp2_with fail
  refine H3.out.mono ?_
  clear h1 h2 h3
  rintro e w4 ⟨rfl, q, it⟩
  have I4 := Lib.hid (I3.out.trans it)
  have H4 := Lib.hid (HS.out.go (i := 10) (by simp; omega) (by omega) q)
  have h1 := (HV.out.whole 10 (by omega)).ahead
  have h2 := (HV.out.whole 10 (by omega)).meth
  have h3 := (HV.out.whole 10 (by omega)).ent
  clear q it
  go_wp2_with fail
  go_still_tail 7, (by kernel_rfl)
  change wpList _ _ _ _ _ w4.drew
  go_wp2_with fail
  refine H4.out.mono ?_
  clear h1 h2 h3
  rintro e w5 ⟨rfl, q, it⟩
  have I5 := Lib.hid (I4.out.trans it)
  have Q := Lib.hid q
  clear q it
  go_wp2_with fail
  go_end0
  refine ⟨rfl, ?_, I5.out⟩
  have := Q.out
  simp only [List.append_assoc, List.cons_append, List.nil_append] at this
  exact this
theorem text_at {l : List Nat} {j : Nat} (h : j < l.length) (hl : ∀ x ∈ l, x < 128) : ∃ hj : j < (textOf l).size, ((textOf l)[j]'hj).toNat = l.getD j 0 := by
  have hz : (textOf l).size = l.length := by
    show ((l.map UInt8.ofNat).toArray).size = _
    simp
  refine ⟨by omega, ?_⟩
  show (((l.map UInt8.ofNat).toArray)[j]'(by simpa using h)).toNat = _
  rw [List.getElem_toArray, List.getElem_map, List.getD_eq_getElem?_getD, List.getElem?_eq_getElem h]
  have := hl _ (List.getElem_mem h)
  exact UInt8.toNat_ofNat_of_lt' (by show l[j] < 256; omega)
theorem text_size (l : List Nat) : (textOf l).size = l.length := by
  show ((l.map UInt8.ofNat).toArray).size = _
  simp
theorem flat_snoc (l : List Nat) (j : Nat) (h : j < l.length) : (l.take (j + 1)).flatMap Rq.fields = (l.take j).flatMap Rq.fields ++ Rq.fields (l.getD j 0) := by
  rw [take_snoc _ _ h, List.flatMap_append, List.flatMap_singleton]
theorem fields_len (c : Nat) : (Rq.fields c).length ≤ 5 := by
  unfold Rq.fields
  repeat' split
  all_goals simp
theorem flat_len (l : List Nat) : (l.flatMap Rq.fields).length ≤ 5 * l.length := by
  induction l with
  | nil => simp
  | cons a t ih =>
    rw [List.flatMap_cons, List.length_append, List.length_cons]
    have := fields_len a
    omega
set_option maxRecDepth 100000 in
set_option maxHeartbeats 8000000 in
theorem visit_any (B R T k : Nat) (v recv : Value) (f : Nat → FuncId) (Inv : List Nat → World → Prop) (hs : Steps B R recv f Inv) (hv : Visitor T v recv f) (w : World) (hV : Vars w) (hk : k < 256) (hB : B ≤ w.heap.size) (hc : w.cell? ⟨R, 0, none⟩ = some (.int .u8 (k : Int))) (h : Inv [] w) :
    Calls Tryd.prog 30 #[.pointer (some ⟨R, 0, none⟩), .iface T v] w fun e w' => e = .returned (.tuple #[]) ∧ Inv (Rq.fparts k) w' := by
  have hmf : ∀ (fn : Fn) (first cap : Array Value) (w : World), (Instr.makeFunc fn first cap).run Tryd.prog w = .ok (.func fn first cap) w := fun _ _ _ _ => rfl
  have HS := Lib.hid hs
  have HV := Lib.hid hv
  have HP := Lib.hid (partsOf_any k w hV hk)
  have e0 : Rq.fparts k = (Rq.letters k).flatMap Rq.fields := rfl
  have hlt := Rq.letters_lt k
  have hall := Rq.letters_all k
  have hlen := Rq.letters_len k
  rw [e0]
  obtain ⟨l, hl⟩ : ∃ l, Rq.letters k = l := ⟨_, rfl⟩
  rw [hl] at HP hlt hall hlen ⊢
  clear hl e0 hs hv hV
  obtain ⟨n, hn⟩ : ∃ n, l.length = n := ⟨_, rfl⟩
  have hz : (textOf l).size = n := (text_size l).trans hn
  have HN := Lib.hid (And.intro hn (And.intro hlt (And.intro hall hz)))
  rw [hn] at hlen
  have hI0 : Inv [] (w.iter (textOf l) 0) := HS.out.below [] w _ h ((Below.refl _ _).alloc (Nat.le_refl _) _)
  have HI := Lib.hid (And.intro hI0 (World.iter_heap w (textOf l) 0))
  have hat := fun (j : Nat) (hj : j < l.length) => text_at hj hlt
  have HA := Lib.hid hat
  obtain ⟨X, hX⟩ : ∃ X, textOf l = X := ⟨_, rfl⟩
  rw [hX] at HP HI HN HA
  obtain ⟨g, hg⟩ : ∃ g, w.heap.size = g := ⟨_, rfl⟩
  rw [hg] at hB
  clear hn hlt hall hz hI0 hat h hX
  go_enter Tryd.func30, Tryd.ntmps30
  go_wp2_with fail
  clear hc
  refine HP.out.mono ?_
  rintro e w1 ⟨rfl, rfl⟩
  go_wp2_with fail
  obtain ⟨W0, hW0⟩ : ∃ W, w.iter X 0 = W := ⟨_, rfl⟩
  rw [hg] at HI
  rw [hW0] at HI ⊢
  clear hW0
  go_loopw [5] (fun _ wr => ∃ j : Nat, j ≤ n ∧ wr.heap[g]? = some (.stringIter X j) ∧ Inv ((l.take j).flatMap Rq.fields) wr) (fun _ wr => n - wr.iterPos g)
  case atStart => exact ⟨0, by omega, HI.out.2, HI.out.1⟩
  case round =>
    obtain ⟨j, hj, hit, hinv⟩ := hrel
    have hpos : wr.iterPos g = j := by unfold World.iterPos; rw [hit]
    by_cases hjn : j < n
    · obtain ⟨hjs, hch⟩ := HA.out j (by rw [HN.out.1]; exact hjn)
      have hst := flat_snoc l j (by rw [HN.out.1]; exact hjn)
      have hmem : l.getD j 0 ∈ l := by
        rw [List.getD_eq_getElem?_getD, List.getElem?_eq_getElem (by rw [HN.out.1]; exact hjn)]
        exact List.getElem_mem _
      have hlet := HN.out.2.2.1 _ hmem
      have hc128 := HN.out.2.1 _ hmem
      obtain ⟨c, hcc⟩ : ∃ c, l.getD j 0 = c := ⟨_, rfl⟩
      rw [hcc] at hst hch hlet hc128
      have hnx : ∀ ty, (Instr.next (.pointer (some ⟨g, 0, none⟩)) true ty).run Tryd.prog wr = .ok (.tuple #[.bool true, .int .i64 (j : Int), .int .i32 (c : Int)]) (wr.iterAt g X (j + 1)) := fun ty => by
        have := Lib.run_next_ascii_at (P := Tryd.prog) wr g X j ty hit hjs (by rw [hch]; exact hc128)
        rw [hch] at this
        exact this
      have hit2 := Lib.iterAt_heap wr g X j (j + 1) hit
      have hinv2 := HS.out.iter _ wr g X j (j + 1) hB hinv hit
      have hfl : ((l.take j).flatMap Rq.fields).length ≤ 15 := by
        have h1 := flat_len (l.take j)
        have h2 : (l.take j).length ≤ 3 := by rw [List.length_take, HN.out.1]; omega
        omega
      obtain ⟨L, hL⟩ : ∃ L, (l.take j).flatMap Rq.fields = L := ⟨_, rfl⟩
      rw [hL] at hst hinv2 hfl
      obtain ⟨W, hW⟩ : ∃ W, wr.iterAt g X (j + 1) = W := ⟨_, rfl⟩
      rw [hW] at hnx hit2 hinv2
      have HR := Lib.hid (And.intro hit2 (And.intro hinv2 (And.intro hst hpos)))
      clear hit hinv hch hmem hcc hit2 hinv2 hst hL hW hjs hpos hc128
      unfold Rq.letter at hlet
      rcases hlet with rfl | rfl | rfl | rfl | rfl
      · have h1 := (HV.out.u64 4 (by omega)).ahead
        have h2 := (HV.out.u64 4 (by omega)).meth
        have h3 := (HV.out.u64 4 (by omega)).ent
        have HG := Lib.hid (HS.out.go (i := 4) (by omega) (by omega) HR.out.2.1)
        go_wp2_with fail
        clear hnx
        go_still_tail 7, (by kernel_rfl)
        change wpList _ _ _ _ _ W.drew
        go_wp2_with fail
        refine HG.out.mono ?_
        clear h1 h2 h3
        rintro e w2 ⟨rfl, q, it⟩
        have H2 := Lib.hid (And.intro q (it g X (j + 1) HR.out.1))
        clear q it
        go_wp2_with fail
        refine ⟨⟨j + 1, by omega, H2.out.2, ?_⟩, ?_⟩
        · rw [HR.out.2.2.1]; exact H2.out.1
        · have : w2.iterPos g = j + 1 := by unfold World.iterPos; rw [H2.out.2]
          rw [this, HR.out.2.2.2]; omega
      · have h1 := (HV.out.u64 5 (by omega)).ahead
        have h2 := (HV.out.u64 5 (by omega)).meth
        have h3 := (HV.out.u64 5 (by omega)).ent
        have HG := Lib.hid (HS.out.go (i := 5) (by omega) (by omega) HR.out.2.1)
        go_wp2_with fail
        clear hnx
        go_still_tail 7, (by kernel_rfl)
        change wpList _ _ _ _ _ W.drew
        go_wp2_with fail
        refine HG.out.mono ?_
        clear h1 h2 h3
        rintro e w2 ⟨rfl, q, it⟩
        have H2 := Lib.hid (And.intro q (it g X (j + 1) HR.out.1))
        clear q it
        go_wp2_with fail
        refine ⟨⟨j + 1, by omega, H2.out.2, ?_⟩, ?_⟩
        · rw [HR.out.2.2.1]; exact H2.out.1
        · have : w2.iterPos g = j + 1 := by unfold World.iterPos; rw [H2.out.2]
          rw [this, HR.out.2.2.2]; omega
      · have h1 := (HV.out.u8 2 (by omega)).ahead
        have h2 := (HV.out.u8 2 (by omega)).meth
        have h3 := (HV.out.u8 2 (by omega)).ent
        have HG := Lib.hid (HS.out.go (i := 2) (by omega) (by omega) HR.out.2.1)
        go_wp2_with fail
        clear hnx
        go_still_tail 7, (by kernel_rfl)
        change wpList _ _ _ _ _ W.drew
        go_wp2_with fail
        refine HG.out.mono ?_
        clear h1 h2 h3
        rintro e w2 ⟨rfl, q, it⟩
        have H2 := Lib.hid (And.intro q (it g X (j + 1) HR.out.1))
        clear q it
        go_wp2_with fail
        refine ⟨⟨j + 1, by omega, H2.out.2, ?_⟩, ?_⟩
        · rw [HR.out.2.2.1]; exact H2.out.1
        · have : w2.iterPos g = j + 1 := by unfold World.iterPos; rw [H2.out.2]
          rw [this, HR.out.2.2.2]; omega
      · have h1 := HV.out.u16.ahead
        have h2 := HV.out.u16.meth
        have h3 := HV.out.u16.ent
        have HG := Lib.hid (HS.out.go (i := 3) (by omega) (by omega) HR.out.2.1)
        go_wp2_with fail
        clear hnx
        go_still_tail 7, (by kernel_rfl)
        change wpList _ _ _ _ _ W.drew
        go_wp2_with fail
        refine HG.out.mono ?_
        clear h1 h2 h3
        rintro e w2 ⟨rfl, q, it⟩
        have H2 := Lib.hid (And.intro q (it g X (j + 1) HR.out.1))
        clear q it
        go_wp2_with fail
        refine ⟨⟨j + 1, by omega, H2.out.2, ?_⟩, ?_⟩
        · rw [HR.out.2.2.1]; exact H2.out.1
        · have : w2.iterPos g = j + 1 := by unfold World.iterPos; rw [H2.out.2]
          rw [this, HR.out.2.2.2]; omega
      · have HG := Lib.hid (visitPanes_any B R T v recv f Inv HS.out HV.out L (by omega) W HR.out.2.1)
        go_wp2_with fail
        clear hnx
        refine HG.out.mono ?_
        rintro e w2 ⟨rfl, q, it⟩
        have H2 := Lib.hid (And.intro q (it g X (j + 1) HR.out.1))
        clear q it
        go_wp2_with fail
        refine ⟨⟨j + 1, by omega, H2.out.2, ?_⟩, ?_⟩
        · rw [HR.out.2.2.1]; exact H2.out.1
        · have : w2.iterPos g = j + 1 := by unfold World.iterPos; rw [H2.out.2]
          rw [this, HR.out.2.2.2]; omega
    · obtain rfl : j = n := by omega
      have hnx : ∀ ty, (Instr.next (.pointer (some ⟨g, 0, none⟩)) true ty).run Tryd.prog wr = .ok (.tuple #[.bool false]) wr := fun ty => Lib.run_next_end_at (P := Tryd.prog) wr g X j ty hit (by rw [HN.out.2.2.2]; omega)
      have e1 : l.take j = l := List.take_of_length_le (by rw [HN.out.1]; exact Nat.le_refl _)
      rw [e1] at hinv
      have HQ := Lib.hid hinv
      clear hinv hit hpos e1
      go_wp2_with fail
      go_end0
      exact ⟨rfl, HQ.out⟩
end Go.Proofs.YtgailpljcobabaaDoor
