/- Layer 8, the program: rows and lists, packed. -/
import Derived.Test.YtognlgklepgemaaGreatRpW
namespace Go.Proofs.YtognlgklepgemaaGreat
open Go.ChangeShapes Go.WideShapes Go.ChangeAt Go.RowKit

theorem Rp.take_cagg (a : Ag.A) : (Rp.cagg a).take 1 = [Pk.be 8 (Rp.u a.c)] ∧ (Rp.cagg a).take 2 = [Pk.be 8 (Rp.u a.c), Pk.be 8 (Rp.u a.s)] := ⟨rfl, rfl⟩
set_option maxRecDepth 100000 in
set_option maxHeartbeats 2000000 in
theorem put_row (w0 W : World) (P : Nat) (r : Rw) (L : List (List Nat)) (h : Putting w0 W P L) (hL : L.length ≤ 900000) (hk : r.p.k.size ≤ 65535) :
    Calls Tryz.prog 112 #[.pointer (some ⟨P, 0, none⟩), rowV r] W (PutP w0 W P (L ++ Rp.crow r)) := by
  have b0 : Below W.heap.size W (W.alloc (.cells #[.string r.p.k, .int .i64 r.p.s, .int .i64 r.p.e, .int .i64 r.a.c, .int .i64 r.a.s, .int .i64 r.a.lo, .int .i64 r.a.hi] 49)) := (Below.refl _ _).alloc (Nat.le_refl _) _
  have K0 := Blk.new W 49 #[.string r.p.k, .int .i64 r.p.s, .int .i64 r.p.e, .int .i64 r.a.c, .int .i64 r.a.s, .int .i64 r.a.lo, .int .i64 r.a.hi]
  have H := Lib.hid (And.intro (put_pane w0 _ P r.p L (h.below b0) hL hk) (And.intro K0 (Stay.below b0)))
  clear h b0 K0
  unfold rowV Rp.crow
  obtain ⟨p, ⟨c, s, lo, hi⟩⟩ := r
  have hl2 : (L ++ Rp.cpane p).length ≤ 900003 := by
    rw [List.length_append]
    show L.length + 3 ≤ 900003
    omega
  obtain ⟨L2, hL2⟩ : ∃ L2, L ++ Rp.cpane p = L2 := ⟨_, rfl⟩
  rw [hL2] at H hl2
  rw [← List.append_assoc, hL2]
  clear hL2 hL
  obtain ⟨k, ps, en⟩ := p
  dsimp only at *
  go_enter Tryz.func112, Tryz.ntmps112
  go_wp2_with fail
  refine H.out.1.mono ?_
  rintro e w1 hp
  obtain rfl := hp.1
  have K2 := hp.2.2 _ _ _ (by decide) (by decide) H.out.2.1
  have c3 := K2.cell 3
  have c4 := K2.cell 4
  have c5 := K2.cell 5
  have c6 := K2.cell 6
  have HP := Lib.hid (And.intro hp.2.1 (H.out.2.2.trans hp.2.2))
  clear hp K2
  go_wp2_with fail
  go_loopw [23] (fun i wr => ∃ j : Nat, j ≤ 4 ∧ i = .int .i64 (j : Int) ∧ Putting w0 wr P (L2 ++ (Rp.cagg ⟨c, s, lo, hi⟩).take j) ∧ Stay W wr) (fun i _ => 4 - (intOf i).toNat)
  case atStart => exact ⟨0, by omega, rfl, by rw [List.take_zero, List.append_nil]; exact HP.out.1, HP.out.2⟩
  case round =>
    obtain ⟨j, hj, rfl, hput, hst⟩ := hrel
    have HR := Lib.hid (And.intro hput hst)
    clear hput hst c3 c4 c5 c6
    have hjj : j = 0 ∨ j = 1 ∨ j = 2 ∨ j = 3 ∨ j = 4 := by omega
    rcases hjj with rfl | rfl | rfl | rfl | rfl
    · have hix : ∀ V : World, (Instr.index 182 (.agg #[.int .i64 c, .int .i64 s, .int .i64 lo, .int .i64 hi]) (.int .i64 0)).run Tryz.prog V = .ok (.int .i64 c) V := fun _ => by kernel_rfl
      go_wp2_with fail
      refine (putInt_any c (Rp.u c) _ (Rp.u_eq _) (Rp.u_lt _)).mono ?_
      rintro e w3 ⟨a, c', rfl, ho, b⟩
      have H3 := Lib.hid (add_put HR.out.1 b ho (by omega) (by rw [List.length_append, List.length_take]; omega))
      clear ho b
      go_wp2_with fail
      refine H3.out.mono ?_
      rintro e w4 hp
      obtain rfl := hp.1
      have H4 := Lib.hid hp.2
      clear hp
      go_wp2_with fail
      refine ⟨⟨1, by omega, by go_num, ?_, HR.out.2.trans H4.out.2⟩, by simp [intOf]⟩
      have := H4.out.1
      rw [List.append_assoc] at this
      exact this
    · have hix : ∀ V : World, (Instr.index 182 (.agg #[.int .i64 c, .int .i64 s, .int .i64 lo, .int .i64 hi]) (.int .i64 1)).run Tryz.prog V = .ok (.int .i64 s) V := fun _ => by kernel_rfl
      go_wp2_with fail
      refine (putInt_any s (Rp.u s) _ (Rp.u_eq _) (Rp.u_lt _)).mono ?_
      rintro e w3 ⟨a, c', rfl, ho, b⟩
      have H3 := Lib.hid (add_put HR.out.1 b ho (by omega) (by rw [List.length_append, List.length_take]; omega))
      clear ho b
      go_wp2_with fail
      refine H3.out.mono ?_
      rintro e w4 hp
      obtain rfl := hp.1
      have H4 := Lib.hid hp.2
      clear hp
      go_wp2_with fail
      refine ⟨⟨2, by omega, by go_num, ?_, HR.out.2.trans H4.out.2⟩, by simp [intOf]⟩
      have := H4.out.1
      rw [List.append_assoc] at this
      exact this
    · have hix : ∀ V : World, (Instr.index 182 (.agg #[.int .i64 c, .int .i64 s, .int .i64 lo, .int .i64 hi]) (.int .i64 2)).run Tryz.prog V = .ok (.int .i64 lo) V := fun _ => by kernel_rfl
      go_wp2_with fail
      refine (putInt_any lo (Rp.u lo) _ (Rp.u_eq _) (Rp.u_lt _)).mono ?_
      rintro e w3 ⟨a, c', rfl, ho, b⟩
      have H3 := Lib.hid (add_put HR.out.1 b ho (by omega) (by rw [List.length_append, List.length_take]; omega))
      clear ho b
      go_wp2_with fail
      refine H3.out.mono ?_
      rintro e w4 hp
      obtain rfl := hp.1
      have H4 := Lib.hid hp.2
      clear hp
      go_wp2_with fail
      refine ⟨⟨3, by omega, by go_num, ?_, HR.out.2.trans H4.out.2⟩, by simp [intOf]⟩
      have := H4.out.1
      rw [List.append_assoc] at this
      exact this
    · have hix : ∀ V : World, (Instr.index 182 (.agg #[.int .i64 c, .int .i64 s, .int .i64 lo, .int .i64 hi]) (.int .i64 3)).run Tryz.prog V = .ok (.int .i64 hi) V := fun _ => by kernel_rfl
      go_wp2_with fail
      refine (putInt_any hi (Rp.u hi) _ (Rp.u_eq _) (Rp.u_lt _)).mono ?_
      rintro e w3 ⟨a, c', rfl, ho, b⟩
      have H3 := Lib.hid (add_put HR.out.1 b ho (by omega) (by rw [List.length_append, List.length_take]; omega))
      clear ho b
      go_wp2_with fail
      refine H3.out.mono ?_
      rintro e w4 hp
      obtain rfl := hp.1
      have H4 := Lib.hid hp.2
      clear hp
      go_wp2_with fail
      refine ⟨⟨4, by omega, by go_num, ?_, HR.out.2.trans H4.out.2⟩, by simp [intOf]⟩
      have := H4.out.1
      rw [List.append_assoc] at this
      exact this
    · go_wp2_with fail
      go_end0
      refine ⟨rfl, ?_, HR.out.2⟩
      exact HR.out.1
theorem Stay.held {w w' : World} {g : Nat} {t : TypeId} {cs : Array Value} (h : Stay w w') (hb : Blk w g t cs) (h1 : t ≠ 78) (h2 : t ≠ 33) : Blk w' g t cs := h g t cs h1 h2 hb
theorem flat_snoc {α β : Type} [Inhabited α] (f : α → List β) (l : List α) (j : Nat) (h : j < l.length) : (l.take (j + 1)).flatMap f = (l.take j).flatMap f ++ f (l.getD j default) := by
  rw [List.take_succ_eq_append_getElem h, List.flatMap_append, List.getD_eq_getElem?_getD, List.getElem?_eq_getElem h]
  simp
theorem flat_cnt {α β : Type} (f : α → List β) (k : Nat) (hf : ∀ a, (f a).length = k) (l : List α) : (l.flatMap f).length = k * l.length := by
  induction l with
  | nil => rfl
  | cons a l ih => rw [List.flatMap_cons, List.length_append, hf, ih, List.length_cons, Nat.mul_succ, Nat.add_comm]
theorem Rp.crow_len (r : Rw) : (Rp.crow r).length = 7 := rfl
theorem Rp.cpane_len (r : Pn) : (Rp.cpane r).length = 3 := rfl
theorem low_cell {w0 w : World} {P : Nat} {L : List (List Nat)} (h : Putting w0 w P L) {b o : Nat} (hb : b < w0.heap.size) : w.cell? ⟨b, o, none⟩ = w0.cell? ⟨b, o, none⟩ := h.low.cell (p := ⟨b, o, none⟩) hb
theorem u8_wrap (n : Nat) : IntKind.u8.wrap (n : Int) = ((n % 256 : Nat) : Int) := by
  simp [IntKind.wrap, IntKind.bits, IntKind.signed]
set_option maxRecDepth 100000 in
set_option maxHeartbeats 2000000 in
theorem putList_row (w0 W : World) (P n c B : Nat) (A : Option Addr) (l : List Rw) (L : List (List Nat)) (h : Putting w0 W P L) (hL : L.length ≤ 800000) (hl : RowsIn w0 B A n l) (hB : B ≤ w0.heap.size) (hn : n ≤ 1000) (hk : ∀ r ∈ l, r.p.k.size ≤ 65535) :
    Calls Tryz.prog 111 #[.pointer (some ⟨P, 0, none⟩), .slice A n c, .func (.func 112) #[.pointer (some ⟨P, 0, none⟩)] #[]] W (PutP w0 W P (L ++ (Pk.be 1 (n % 256) :: l.flatMap Rp.crow))) := by
  have H := Lib.hid (And.intro h (And.intro hl (And.intro hB hk)))
  have hlen := hl.1
  have hq := u8_wrap n
  have hmod : n % 256 < 256 := Nat.mod_lt _ (by omega)
  clear h hl hB hk
  go_enter Tryz.func111, Tryz.ntmps111
  go_wp2_with fail
  clear hq
  refine (put8_any _ (n % 256) _ (by simp) hmod).mono ?_
  rintro e w1 ⟨a, c1, rfl, ho, b⟩
  have H1 := Lib.hid (add_put H.out.1 b ho (by omega) (by omega))
  clear ho b
  go_wp2_with fail
  refine H1.out.mono ?_
  rintro e w2 hp
  obtain rfl := hp.1
  have H2 := Lib.hid hp.2
  have hlL : (L ++ [Pk.be 1 (n % 256)]).length ≤ 800001 := by rw [List.length_append]; show L.length + 1 ≤ 800001; omega
  obtain ⟨L2, hL2⟩ : ∃ L2, L ++ [Pk.be 1 (n % 256)] = L2 := ⟨_, rfl⟩
  rw [hL2] at H2 hlL
  have HL2 := Lib.hid hL2
  clear hp hL2
  go_wp2_with fail
  go_loopw [16] (fun i wr => ∃ j : Nat, j ≤ n ∧ i = .int .i64 (j : Int) ∧ Putting w0 wr P (L2 ++ (l.take j).flatMap Rp.crow) ∧ Stay W wr) (fun i _ => n - (intOf i).toNat)
  case atStart => exact ⟨0, by omega, rfl, by rw [List.take_zero, List.flatMap_nil, List.append_nil]; exact H2.out.1, H2.out.2⟩
  case round =>
    obtain ⟨j, hj, rfl, hput, hst⟩ := hrel
    by_cases hlt : j < n
    · obtain ⟨b, off, rfl, hbB, x0, x1, x2, x3, x4, x5, x6⟩ := H.out.2.1.row hlt
      obtain ⟨r, hr⟩ : ∃ r, l.getD j default = r := ⟨_, rfl⟩
      have hrk : r.p.k.size ≤ 65535 := by
        rw [← hr, List.getD_eq_getElem?_getD, List.getElem?_eq_getElem (by omega)]
        exact H.out.2.2.2 _ (List.getElem_mem _)
      rw [hr] at x0 x1 x2 x3 x4 x5 x6
      have hz : b < w0.heap.size := by have := H.out.2.2.1; omega
      have d0 := (low_cell hput (o := _) hz).trans x0
      have d1 := (low_cell hput (o := _) hz).trans x1
      have d2 := (low_cell hput (o := _) hz).trans x2
      have d3 := (low_cell hput (o := _) hz).trans x3
      have d4 := (low_cell hput (o := _) hz).trans x4
      have d5 := (low_cell hput (o := _) hz).trans x5
      have d6 := (low_cell hput (o := _) hz).trans x6
      have b1 : Below wr.heap.size wr (wr.alloc (.cells #[.string r.p.k, .int .i64 r.p.s, .int .i64 r.p.e, .int .i64 r.a.c, .int .i64 r.a.s, .int .i64 r.a.lo, .int .i64 r.a.hi] 49)) := (Below.refl _ _).alloc (Nat.le_refl _) _
      have hsn := flat_snoc Rp.crow l j (by omega)
      rw [hr] at hsn
      have hc1 : (L2 ++ (l.take j).flatMap Rp.crow).length ≤ 900000 := by
        rw [List.length_append, flat_cnt Rp.crow 7 Rp.crow_len, List.length_take]
        omega
      have HC := Lib.hid (put_row w0 _ P r _ (hput.below b1) hc1 hrk)
      have HR := Lib.hid (And.intro (hst.trans (Stay.below b1)) hsn)
      have i1 : (0 : Int) ≤ j := by omega
      have i2 : (j : Int) < n := by omega
      clear x0 x1 x2 x3 x4 x5 x6 hput hst hc1 hsn hr b1
      go_wp2_with fail
      clear d0 d1 d2 d3 d4 d5 d6
      refine HC.out.mono ?_
      rintro e w4 hp
      obtain rfl := hp.1
      have H4 := Lib.hid hp.2
      clear hp
      go_wp2_with fail
      refine ⟨⟨j + 1, by omega, by go_num, ?_, HR.out.1.trans H4.out.2⟩, by simp [intOf]; omega⟩
      rw [HR.out.2, ← List.append_assoc]
      exact H4.out.1
    · obtain rfl : j = n := by omega
      rw [List.take_of_length_le (by omega)] at hput
      have HR := Lib.hid (And.intro hput hst)
      clear hput hst
      go_wp2_with fail
      go_end0
      refine ⟨rfl, ?_, HR.out.2⟩
      have := HR.out.1
      rw [← HL2.out, List.append_assoc] at this
      exact this
set_option maxRecDepth 100000 in
theorem put_rows (w0 W : World) (P R i n c B : Nat) (A : Option Addr) (l : List Rw) (L : List (List Nat)) (h : Putting w0 W P L) (hL : L.length ≤ 800000) (hc : W.cell? ⟨R, i, none⟩ = some (.slice A n c)) (hl : RowsIn w0 B A n l) (hB : B ≤ w0.heap.size) (hn : n ≤ 1000) (hk : ∀ r ∈ l, r.p.k.size ≤ 65535) :
    Calls Tryz.prog 106 #[.pointer (some ⟨P, 0, none⟩), .pointer (some ⟨R, i, none⟩)] W (PutP w0 W P (L ++ (Pk.be 1 (n % 256) :: l.flatMap Rp.crow))) := by
  have H := Lib.hid (putList_row w0 W P n c B A l L h hL hl hB hn hk)
  have hmf : ∀ (fn : Fn) (first cap : Array Value) (w : World), (Instr.makeFunc fn first cap).run Tryz.prog w = .ok (.func fn first cap) w := fun _ _ _ _ => rfl
  clear h hl hB hk
  go_enter Tryz.func106, Tryz.ntmps106
  go_wp2_with fail
  refine H.out.mono ?_
  rintro e w4 hp
  obtain rfl := hp.1
  have H4 := Lib.hid hp
  clear hp
  go_wp2_with fail
  go_end0
  exact H4.out
set_option maxRecDepth 100000 in
set_option maxHeartbeats 2000000 in
theorem putList_pan (w0 W : World) (P n c B : Nat) (A : Option Addr) (l : List Pn) (L : List (List Nat)) (h : Putting w0 W P L) (hL : L.length ≤ 800000) (hl : PansIn w0 B A n l) (hB : B ≤ w0.heap.size) (hn : n ≤ 1000) (hk : ∀ r ∈ l, r.k.size ≤ 65535) :
    Calls Tryz.prog 109 #[.pointer (some ⟨P, 0, none⟩), .slice A n c, .func (.func 110) #[.pointer (some ⟨P, 0, none⟩)] #[]] W (PutP w0 W P (L ++ (Pk.be 1 (n % 256) :: l.flatMap Rp.cpane))) := by
  have H := Lib.hid (And.intro h (And.intro hl (And.intro hB hk)))
  have hlen := hl.1
  have hq := u8_wrap n
  have hmod : n % 256 < 256 := Nat.mod_lt _ (by omega)
  clear h hl hB hk
  go_enter Tryz.func109, Tryz.ntmps109
  go_wp2_with fail
  clear hq
  refine (put8_any _ (n % 256) _ (by simp) hmod).mono ?_
  rintro e w1 ⟨a, c1, rfl, ho, b⟩
  have H1 := Lib.hid (add_put H.out.1 b ho (by omega) (by omega))
  clear ho b
  go_wp2_with fail
  refine H1.out.mono ?_
  rintro e w2 hp
  obtain rfl := hp.1
  have H2 := Lib.hid hp.2
  have hlL : (L ++ [Pk.be 1 (n % 256)]).length ≤ 800001 := by rw [List.length_append]; show L.length + 1 ≤ 800001; omega
  obtain ⟨L2, hL2⟩ : ∃ L2, L ++ [Pk.be 1 (n % 256)] = L2 := ⟨_, rfl⟩
  rw [hL2] at H2 hlL
  have HL2 := Lib.hid hL2
  clear hp hL2
  go_wp2_with fail
  go_loopw [16] (fun i wr => ∃ j : Nat, j ≤ n ∧ i = .int .i64 (j : Int) ∧ Putting w0 wr P (L2 ++ (l.take j).flatMap Rp.cpane) ∧ Stay W wr) (fun i _ => n - (intOf i).toNat)
  case atStart => exact ⟨0, by omega, rfl, by rw [List.take_zero, List.flatMap_nil, List.append_nil]; exact H2.out.1, H2.out.2⟩
  case round =>
    obtain ⟨j, hj, rfl, hput, hst⟩ := hrel
    by_cases hlt : j < n
    · obtain ⟨b, off, rfl, hbB, x0, x1, x2⟩ := H.out.2.1.pan hlt
      obtain ⟨r, hr⟩ : ∃ r, l.getD j default = r := ⟨_, rfl⟩
      have hrk : r.k.size ≤ 65535 := by
        rw [← hr, List.getD_eq_getElem?_getD, List.getElem?_eq_getElem (by omega)]
        exact H.out.2.2.2 _ (List.getElem_mem _)
      rw [hr] at x0 x1 x2
      have hz : b < w0.heap.size := by have := H.out.2.2.1; omega
      have d0 := (low_cell hput (o := _) hz).trans x0
      have d1 := (low_cell hput (o := _) hz).trans x1
      have d2 := (low_cell hput (o := _) hz).trans x2
      have b1 : Below wr.heap.size wr (wr.alloc (.cells #[.string r.k, .int .i64 r.s, .int .i64 r.e] 45)) := (Below.refl _ _).alloc (Nat.le_refl _) _
      have hsn := flat_snoc Rp.cpane l j (by omega)
      rw [hr] at hsn
      have hc1 : (L2 ++ (l.take j).flatMap Rp.cpane).length ≤ 900000 := by
        rw [List.length_append, flat_cnt Rp.cpane 3 Rp.cpane_len, List.length_take]
        omega
      have HC := Lib.hid (put_pane w0 _ P r _ (hput.below b1) hc1 hrk)
      have HR := Lib.hid (And.intro (hst.trans (Stay.below b1)) hsn)
      have i1 : (0 : Int) ≤ j := by omega
      have i2 : (j : Int) < n := by omega
      clear x0 x1 x2 hput hst hc1 hsn hr b1
      go_wp2_with fail
      clear d0 d1 d2
      refine HC.out.mono ?_
      rintro e w4 hp
      obtain rfl := hp.1
      have H4 := Lib.hid hp.2
      clear hp
      go_wp2_with fail
      refine ⟨⟨j + 1, by omega, by go_num, ?_, HR.out.1.trans H4.out.2⟩, by simp [intOf]; omega⟩
      rw [HR.out.2, ← List.append_assoc]
      exact H4.out.1
    · obtain rfl : j = n := by omega
      rw [List.take_of_length_le (by omega)] at hput
      have HR := Lib.hid (And.intro hput hst)
      clear hput hst
      go_wp2_with fail
      go_end0
      refine ⟨rfl, ?_, HR.out.2⟩
      have := HR.out.1
      rw [← HL2.out, List.append_assoc] at this
      exact this
set_option maxRecDepth 100000 in
theorem put_panes (w0 W : World) (P R i n c B : Nat) (A : Option Addr) (l : List Pn) (L : List (List Nat)) (h : Putting w0 W P L) (hL : L.length ≤ 800000) (hc : W.cell? ⟨R, i, none⟩ = some (.slice A n c)) (hl : PansIn w0 B A n l) (hB : B ≤ w0.heap.size) (hn : n ≤ 1000) (hk : ∀ r ∈ l, r.k.size ≤ 65535) :
    Calls Tryz.prog 105 #[.pointer (some ⟨P, 0, none⟩), .pointer (some ⟨R, i, none⟩)] W (PutP w0 W P (L ++ (Pk.be 1 (n % 256) :: l.flatMap Rp.cpane))) := by
  have H := Lib.hid (putList_pan w0 W P n c B A l L h hL hl hB hn hk)
  have hmf : ∀ (fn : Fn) (first cap : Array Value) (w : World), (Instr.makeFunc fn first cap).run Tryz.prog w = .ok (.func fn first cap) w := fun _ _ _ _ => rfl
  clear h hl hB hk
  go_enter Tryz.func105, Tryz.ntmps105
  go_wp2_with fail
  refine H.out.mono ?_
  rintro e w4 hp
  obtain rfl := hp.1
  have H4 := Lib.hid hp
  clear hp
  go_wp2_with fail
  go_end0
  exact H4.out
end Go.Proofs.YtognlgklepgemaaGreat
