/- Layer 8, the program: parts shown to a visitor, of whatever kind it is. -/
import Derived.Test.YtognlgklepgemaaGreatRpS
import Derived.StillTailTactics
namespace Go.Proofs.YtognlgklepgemaaGreat
open Go.ChangeShapes Go.WideShapes Go.ChangeAt Go.RowKit

/-- A visitor of type T has the method, which is function fn, called on recv. -/
structure Vis (T : TypeId) (v : Value) (nm : String) (fn : FuncId) (recv : Value) : Prop where
  ahead : ∀ w : World, (nilAhead 295 T v nm).run Tryz.prog w = .ok (some false) w
  ent : ∀ (args : Array Value) (w : World), (callFunc fn args).run Tryz.prog w = .ok (.enter fn args) w
  meth : ∀ w : World, (method 295 T v nm).run Tryz.prog w = .ok (fn, recv) w
def Rp.pname (p : Nat) : String := if p = 0 then "tidepool/reply.code" else if p = 1 then "tidepool/reply.flag" else if p = 8 then "tidepool/reply.rows" else if p = 9 then "tidepool/reply.panes" else "tidepool/reply.number"
set_option maxRecDepth 100000 in
set_option maxHeartbeats 2000000 in
theorem show_0 (R T fn : Nat) (v recv : Value) (w : World) (Q : World → Prop) (hv : Vis T v "tidepool/reply.code" fn recv)
    (h : Calls Tryz.prog fn #[recv, .pointer (some ⟨R, 2, none⟩)] w.drew fun e w' => e = .returned (.tuple #[]) ∧ Q w') :
    Calls Tryz.prog 70 #[.pointer (some ⟨R, 0, none⟩), .int .u8 0, .iface T v] w fun e w' => e = .returned (.tuple #[]) ∧ Q w' := by
  have hmf : ∀ (fn : Fn) (first cap : Array Value) (w : World), (Instr.makeFunc fn first cap).run Tryz.prog w = .ok (.func fn first cap) w := fun _ _ _ _ => rfl
  have h1 := hv.ahead
  have h2 := hv.meth
  have h3 := hv.ent
  have H := Lib.hid h
  clear h hv
  go_enter Tryz.func70, Tryz.ntmps70
  go_wp2_with fail
  go_still_tail 7, (by kernel_rfl)
  change wpList _ _ _ _ _ w.drew
  go_wp2_with fail
  refine H.out.mono ?_
  rintro e w1 ⟨rfl, hq⟩
  have HQ := Lib.hid hq
  clear hq
  go_wp2_with fail
  go_end0
  exact ⟨rfl, HQ.out⟩
set_option maxRecDepth 100000 in
set_option maxHeartbeats 2000000 in
theorem show_1 (R T fn : Nat) (v recv : Value) (w : World) (Q : World → Prop) (hv : Vis T v "tidepool/reply.flag" fn recv)
    (h : Calls Tryz.prog fn #[recv, .pointer (some ⟨R, 3, none⟩)] w.drew fun e w' => e = .returned (.tuple #[]) ∧ Q w') :
    Calls Tryz.prog 70 #[.pointer (some ⟨R, 0, none⟩), .int .u8 1, .iface T v] w fun e w' => e = .returned (.tuple #[]) ∧ Q w' := by
  have hmf : ∀ (fn : Fn) (first cap : Array Value) (w : World), (Instr.makeFunc fn first cap).run Tryz.prog w = .ok (.func fn first cap) w := fun _ _ _ _ => rfl
  have h1 := hv.ahead
  have h2 := hv.meth
  have h3 := hv.ent
  have H := Lib.hid h
  clear h hv
  go_enter Tryz.func70, Tryz.ntmps70
  go_wp2_with fail
  go_still_tail 7, (by kernel_rfl)
  change wpList _ _ _ _ _ w.drew
  go_wp2_with fail
  refine H.out.mono ?_
  rintro e w1 ⟨rfl, hq⟩
  have HQ := Lib.hid hq
  clear hq
  go_wp2_with fail
  go_end0
  exact ⟨rfl, HQ.out⟩
set_option maxRecDepth 100000 in
set_option maxHeartbeats 2000000 in
theorem show_2 (R T fn : Nat) (v recv : Value) (w : World) (Q : World → Prop) (hv : Vis T v "tidepool/reply.number" fn recv)
    (h : Calls Tryz.prog fn #[recv, .pointer (some ⟨R, 4, none⟩)] w.drew fun e w' => e = .returned (.tuple #[]) ∧ Q w') :
    Calls Tryz.prog 70 #[.pointer (some ⟨R, 0, none⟩), .int .u8 2, .iface T v] w fun e w' => e = .returned (.tuple #[]) ∧ Q w' := by
  have hmf : ∀ (fn : Fn) (first cap : Array Value) (w : World), (Instr.makeFunc fn first cap).run Tryz.prog w = .ok (.func fn first cap) w := fun _ _ _ _ => rfl
  have h1 := hv.ahead
  have h2 := hv.meth
  have h3 := hv.ent
  have H := Lib.hid h
  clear h hv
  go_enter Tryz.func70, Tryz.ntmps70
  go_wp2_with fail
  go_still_tail 7, (by kernel_rfl)
  change wpList _ _ _ _ _ w.drew
  go_wp2_with fail
  refine H.out.mono ?_
  rintro e w1 ⟨rfl, hq⟩
  have HQ := Lib.hid hq
  clear hq
  go_wp2_with fail
  go_end0
  exact ⟨rfl, HQ.out⟩
set_option maxRecDepth 100000 in
set_option maxHeartbeats 2000000 in
theorem show_3 (R T fn : Nat) (v recv : Value) (w : World) (Q : World → Prop) (hv : Vis T v "tidepool/reply.number" fn recv)
    (h : Calls Tryz.prog fn #[recv, .pointer (some ⟨R, 5, none⟩)] w.drew fun e w' => e = .returned (.tuple #[]) ∧ Q w') :
    Calls Tryz.prog 70 #[.pointer (some ⟨R, 0, none⟩), .int .u8 3, .iface T v] w fun e w' => e = .returned (.tuple #[]) ∧ Q w' := by
  have hmf : ∀ (fn : Fn) (first cap : Array Value) (w : World), (Instr.makeFunc fn first cap).run Tryz.prog w = .ok (.func fn first cap) w := fun _ _ _ _ => rfl
  have h1 := hv.ahead
  have h2 := hv.meth
  have h3 := hv.ent
  have H := Lib.hid h
  clear h hv
  go_enter Tryz.func70, Tryz.ntmps70
  go_wp2_with fail
  go_still_tail 7, (by kernel_rfl)
  change wpList _ _ _ _ _ w.drew
  go_wp2_with fail
  refine H.out.mono ?_
  rintro e w1 ⟨rfl, hq⟩
  have HQ := Lib.hid hq
  clear hq
  go_wp2_with fail
  go_end0
  exact ⟨rfl, HQ.out⟩
set_option maxRecDepth 100000 in
set_option maxHeartbeats 2000000 in
theorem show_4 (R T fn : Nat) (v recv : Value) (w : World) (Q : World → Prop) (hv : Vis T v "tidepool/reply.number" fn recv)
    (h : Calls Tryz.prog fn #[recv, .pointer (some ⟨R, 6, none⟩)] w.drew fun e w' => e = .returned (.tuple #[]) ∧ Q w') :
    Calls Tryz.prog 70 #[.pointer (some ⟨R, 0, none⟩), .int .u8 4, .iface T v] w fun e w' => e = .returned (.tuple #[]) ∧ Q w' := by
  have hmf : ∀ (fn : Fn) (first cap : Array Value) (w : World), (Instr.makeFunc fn first cap).run Tryz.prog w = .ok (.func fn first cap) w := fun _ _ _ _ => rfl
  have h1 := hv.ahead
  have h2 := hv.meth
  have h3 := hv.ent
  have H := Lib.hid h
  clear h hv
  go_enter Tryz.func70, Tryz.ntmps70
  go_wp2_with fail
  go_still_tail 7, (by kernel_rfl)
  change wpList _ _ _ _ _ w.drew
  go_wp2_with fail
  refine H.out.mono ?_
  rintro e w1 ⟨rfl, hq⟩
  have HQ := Lib.hid hq
  clear hq
  go_wp2_with fail
  go_end0
  exact ⟨rfl, HQ.out⟩
set_option maxRecDepth 100000 in
set_option maxHeartbeats 2000000 in
theorem show_5 (R T fn : Nat) (v recv : Value) (w : World) (Q : World → Prop) (hv : Vis T v "tidepool/reply.number" fn recv)
    (h : Calls Tryz.prog fn #[recv, .pointer (some ⟨R, 7, none⟩)] w.drew fun e w' => e = .returned (.tuple #[]) ∧ Q w') :
    Calls Tryz.prog 70 #[.pointer (some ⟨R, 0, none⟩), .int .u8 5, .iface T v] w fun e w' => e = .returned (.tuple #[]) ∧ Q w' := by
  have hmf : ∀ (fn : Fn) (first cap : Array Value) (w : World), (Instr.makeFunc fn first cap).run Tryz.prog w = .ok (.func fn first cap) w := fun _ _ _ _ => rfl
  have h1 := hv.ahead
  have h2 := hv.meth
  have h3 := hv.ent
  have H := Lib.hid h
  clear h hv
  go_enter Tryz.func70, Tryz.ntmps70
  go_wp2_with fail
  go_still_tail 7, (by kernel_rfl)
  change wpList _ _ _ _ _ w.drew
  go_wp2_with fail
  refine H.out.mono ?_
  rintro e w1 ⟨rfl, hq⟩
  have HQ := Lib.hid hq
  clear hq
  go_wp2_with fail
  go_end0
  exact ⟨rfl, HQ.out⟩
set_option maxRecDepth 100000 in
set_option maxHeartbeats 2000000 in
theorem show_6 (R T fn : Nat) (v recv : Value) (w : World) (Q : World → Prop) (hv : Vis T v "tidepool/reply.number" fn recv)
    (h : Calls Tryz.prog fn #[recv, .pointer (some ⟨R, 8, none⟩)] w.drew fun e w' => e = .returned (.tuple #[]) ∧ Q w') :
    Calls Tryz.prog 70 #[.pointer (some ⟨R, 0, none⟩), .int .u8 6, .iface T v] w fun e w' => e = .returned (.tuple #[]) ∧ Q w' := by
  have hmf : ∀ (fn : Fn) (first cap : Array Value) (w : World), (Instr.makeFunc fn first cap).run Tryz.prog w = .ok (.func fn first cap) w := fun _ _ _ _ => rfl
  have h1 := hv.ahead
  have h2 := hv.meth
  have h3 := hv.ent
  have H := Lib.hid h
  clear h hv
  go_enter Tryz.func70, Tryz.ntmps70
  go_wp2_with fail
  go_still_tail 7, (by kernel_rfl)
  change wpList _ _ _ _ _ w.drew
  go_wp2_with fail
  refine H.out.mono ?_
  rintro e w1 ⟨rfl, hq⟩
  have HQ := Lib.hid hq
  clear hq
  go_wp2_with fail
  go_end0
  exact ⟨rfl, HQ.out⟩
set_option maxRecDepth 100000 in
set_option maxHeartbeats 2000000 in
theorem show_7 (R T fn : Nat) (v recv : Value) (w : World) (Q : World → Prop) (hv : Vis T v "tidepool/reply.number" fn recv)
    (h : Calls Tryz.prog fn #[recv, .pointer (some ⟨R, 9, none⟩)] w.drew fun e w' => e = .returned (.tuple #[]) ∧ Q w') :
    Calls Tryz.prog 70 #[.pointer (some ⟨R, 0, none⟩), .int .u8 7, .iface T v] w fun e w' => e = .returned (.tuple #[]) ∧ Q w' := by
  have hmf : ∀ (fn : Fn) (first cap : Array Value) (w : World), (Instr.makeFunc fn first cap).run Tryz.prog w = .ok (.func fn first cap) w := fun _ _ _ _ => rfl
  have h1 := hv.ahead
  have h2 := hv.meth
  have h3 := hv.ent
  have H := Lib.hid h
  clear h hv
  go_enter Tryz.func70, Tryz.ntmps70
  go_wp2_with fail
  go_still_tail 7, (by kernel_rfl)
  change wpList _ _ _ _ _ w.drew
  go_wp2_with fail
  refine H.out.mono ?_
  rintro e w1 ⟨rfl, hq⟩
  have HQ := Lib.hid hq
  clear hq
  go_wp2_with fail
  go_end0
  exact ⟨rfl, HQ.out⟩
set_option maxRecDepth 100000 in
set_option maxHeartbeats 2000000 in
theorem show_8 (R T fn : Nat) (v recv : Value) (w : World) (Q : World → Prop) (hv : Vis T v "tidepool/reply.rows" fn recv)
    (h : Calls Tryz.prog fn #[recv, .pointer (some ⟨R, 10, none⟩)] w.drew fun e w' => e = .returned (.tuple #[]) ∧ Q w') :
    Calls Tryz.prog 70 #[.pointer (some ⟨R, 0, none⟩), .int .u8 8, .iface T v] w fun e w' => e = .returned (.tuple #[]) ∧ Q w' := by
  have hmf : ∀ (fn : Fn) (first cap : Array Value) (w : World), (Instr.makeFunc fn first cap).run Tryz.prog w = .ok (.func fn first cap) w := fun _ _ _ _ => rfl
  have h1 := hv.ahead
  have h2 := hv.meth
  have h3 := hv.ent
  have H := Lib.hid h
  clear h hv
  go_enter Tryz.func70, Tryz.ntmps70
  go_wp2_with fail
  go_still_tail 7, (by kernel_rfl)
  change wpList _ _ _ _ _ w.drew
  go_wp2_with fail
  refine H.out.mono ?_
  rintro e w1 ⟨rfl, hq⟩
  have HQ := Lib.hid hq
  clear hq
  go_wp2_with fail
  go_end0
  exact ⟨rfl, HQ.out⟩
set_option maxRecDepth 100000 in
set_option maxHeartbeats 2000000 in
theorem show_9 (R T fn : Nat) (v recv : Value) (w : World) (Q : World → Prop) (hv : Vis T v "tidepool/reply.panes" fn recv)
    (h : Calls Tryz.prog fn #[recv, .pointer (some ⟨R, 11, none⟩)] w.drew fun e w' => e = .returned (.tuple #[]) ∧ Q w') :
    Calls Tryz.prog 70 #[.pointer (some ⟨R, 0, none⟩), .int .u8 9, .iface T v] w fun e w' => e = .returned (.tuple #[]) ∧ Q w' := by
  have hmf : ∀ (fn : Fn) (first cap : Array Value) (w : World), (Instr.makeFunc fn first cap).run Tryz.prog w = .ok (.func fn first cap) w := fun _ _ _ _ => rfl
  have h1 := hv.ahead
  have h2 := hv.meth
  have h3 := hv.ent
  have H := Lib.hid h
  clear h hv
  go_enter Tryz.func70, Tryz.ntmps70
  go_wp2_with fail
  go_still_tail 7, (by kernel_rfl)
  change wpList _ _ _ _ _ w.drew
  go_wp2_with fail
  refine H.out.mono ?_
  rintro e w1 ⟨rfl, hq⟩
  have HQ := Lib.hid hq
  clear hq
  go_wp2_with fail
  go_end0
  exact ⟨rfl, HQ.out⟩
/-- A visitor: its five methods. -/
structure Visitor (T : TypeId) (v recv : Value) (f : Nat → FuncId) : Prop where
  code : Vis T v "tidepool/reply.code" (f 0) recv
  flag : Vis T v "tidepool/reply.flag" (f 1) recv
  number : ∀ p, 2 ≤ p → p ≤ 7 → Vis T v "tidepool/reply.number" (f p) recv
  rows : Vis T v "tidepool/reply.rows" (f 8) recv
  panes : Vis T v "tidepool/reply.panes" (f 9) recv
theorem show_any (R T p : Nat) (v recv : Value) (f : Nat → FuncId) (w : World) (Q : World → Prop) (hp : p < 10) (hv : Visitor T v recv f)
    (h : Calls Tryz.prog (f p) #[recv, .pointer (some ⟨R, p + 2, none⟩)] w.drew fun e w' => e = .returned (.tuple #[]) ∧ Q w') :
    Calls Tryz.prog 70 #[.pointer (some ⟨R, 0, none⟩), .int .u8 (p : Int), .iface T v] w fun e w' => e = .returned (.tuple #[]) ∧ Q w' := by
  match p, hp with
  | 0, _ => exact show_0 R T _ v recv w Q hv.code h
  | 1, _ => exact show_1 R T _ v recv w Q hv.flag h
  | 2, _ => exact show_2 R T _ v recv w Q (hv.number _ (by omega) (by omega)) h
  | 3, _ => exact show_3 R T _ v recv w Q (hv.number _ (by omega) (by omega)) h
  | 4, _ => exact show_4 R T _ v recv w Q (hv.number _ (by omega) (by omega)) h
  | 5, _ => exact show_5 R T _ v recv w Q (hv.number _ (by omega) (by omega)) h
  | 6, _ => exact show_6 R T _ v recv w Q (hv.number _ (by omega) (by omega)) h
  | 7, _ => exact show_7 R T _ v recv w Q (hv.number _ (by omega) (by omega)) h
  | 8, _ => exact show_8 R T _ v recv w Q hv.rows h
  | 9, _ => exact show_9 R T _ v recv w Q hv.panes h
/-- The tables of parts stay. -/
def Parts (w w' : World) : Prop := ∀ g cs, Blk w g 129 cs → Blk w' g 129 cs
theorem Parts.trans {a b c : World} (h : Parts a b) (k : Parts b c) : Parts a c := fun g cs hb => k g cs (h g cs hb)
theorem Parts.below {w w' : World} (h : Below w.heap.size w w') : Parts w w' := fun _ _ hb => hb.below h hb.lt
theorem PartsAt.keep {w w' : World} {A : Option Addr} {l : List Nat} (h : PartsAt w A l) (hp : Parts w w') : PartsAt w' A l := by
  rcases h with h | ⟨g, h1, h2⟩
  · exact .inl h
  · exact .inr ⟨g, h1, hp g _ h2⟩
theorem PartsAt.at_ {w : World} {A : Option Addr} {l : List Nat} {j : Nat} (h : PartsAt w A l) (hj : j < l.length) : ∃ g, A = some ⟨g, 0, none⟩ ∧ w.cell? ⟨g, j, none⟩ = some (.int .u8 ((l.getD j 0 : Nat) : Int)) := by
  rcases h with rfl | ⟨g, h1, h2⟩
  · simp at hj
  · refine ⟨g, h1, (h2.cell j).trans ?_⟩
    unfold Rp.pcells
    rw [List.getElem?_toArray, List.getElem?_map, List.getD_eq_getElem?_getD, List.getElem?_eq_getElem hj]
    rfl
set_option maxRecDepth 100000 in
set_option maxHeartbeats 2000000 in
theorem visit_any (R T k : Nat) (v : Value) (w : World) (Inv : List Nat → World → Prop) (hk : k < 256) (hc : w.cell? ⟨R, 0, none⟩ = some (.int .u8 (k : Int)))
    (h0 : ∀ w1, Below w.heap.size w w1 → Inv [] w1)
    (hstep : ∀ j p wr, j < (Rp.pparts k).length → (Rp.pparts k).getD j 0 = p → Inv ((Rp.pparts k).take j) wr → Calls Tryz.prog 70 #[.pointer (some ⟨R, 0, none⟩), .int .u8 (p : Int), .iface T v] wr fun e w' => e = .returned (.tuple #[]) ∧ Inv ((Rp.pparts k).take (j + 1)) w' ∧ Parts wr w') :
    Calls Tryz.prog 39 #[.pointer (some ⟨R, 0, none⟩), .iface T v] w fun e w' => e = .returned (.tuple #[]) ∧ Inv (Rp.pparts k) w' := by
  have H := Lib.hid (And.intro h0 hstep)
  clear h0 hstep
  have hlen := Rp.pparts_len k
  go_enter Tryz.func39, Tryz.ntmps39
  go_wp2_with fail
  clear hc
  refine (partsOf_any k _ hk).mono ?_
  rintro e w1 ⟨A, c, rfl, hP, b1⟩
  obtain ⟨l, hl⟩ : ∃ l, Rp.pparts k = l := ⟨_, rfl⟩
  rw [hl] at hP H hlen ⊢
  obtain ⟨n, hn⟩ : ∃ n, l.length = n := ⟨_, rfl⟩
  rw [hn] at hlen ⊢
  have HI := Lib.hid (And.intro (H.out.1 _ b1) (And.intro hP (And.intro hl hn)))
  clear hP b1 hl hn
  go_wp2_with fail
  go_loopw [12] (fun i wr => ∃ j : Nat, j ≤ n ∧ i = .int .i64 (j : Int) ∧ Inv (l.take j) wr ∧ PartsAt wr A l) (fun i _ => n - (intOf i).toNat)
  case atStart => exact ⟨0, by omega, rfl, HI.out.1, HI.out.2.1⟩
  case round =>
    obtain ⟨j, hj, rfl, hinv, hP⟩ := hrel
    by_cases hlt : j < n
    · obtain ⟨g, rfl, hc⟩ := hP.at_ (j := j) (by rw [HI.out.2.2.2]; exact hlt)
      have hs := H.out.2 j (l.getD j 0) wr (by rw [HI.out.2.2.2]; exact hlt) rfl hinv
      have HS := Lib.hid (And.intro hs hP)
      clear hs hinv hP
      generalize l.getD j 0 = p at *
      have i1 : (0 : Int) ≤ j := by omega
      have i2 : (j : Int) < n := by omega
      go_wp2_with fail
      clear hc
      refine HS.out.1.mono ?_
      rintro e w2 ⟨rfl, hi2, hp2⟩
      have H2 := Lib.hid (And.intro hi2 (HS.out.2.keep hp2))
      clear hi2 hp2
      go_wp2_with fail
      refine ⟨⟨j + 1, by omega, by go_num, H2.out.1, H2.out.2⟩, by simp [intOf]; omega⟩
    · obtain rfl : j = n := by omega
      have e1 : l.take j = l := List.take_of_length_le (by rw [HI.out.2.2.2]; exact Nat.le_refl _)
      rw [e1] at hinv
      have HV := Lib.hid hinv
      clear hinv hP e1
      go_wp2_with fail
      go_end0
      exact ⟨rfl, by rw [HI.out.2.2.1]; exact HV.out⟩
end Go.Proofs.YtognlgklepgemaaGreat
