/- Layer 8's reference: a reply, packed. -/
import Derived.Test.YtognlgklepgemaaGreatRefRpC
import Derived.Test.YtognlgklepgemaaGreatRefRpD
import Derived.Test.YtognlgklepgemaaGreatJoin2
import Derived.Test.YtognlgklepgemaaGreatRpE
import Derived.Test.YtognlgklepgemaaGreatRpQ
import Derived.Test.YtognlgklepgemaaGreatRpI
namespace Go.Proofs.YtognlgklepgemaaGreat
open Go.ChangeShapes Go.WideShapes Go.ChangeAt Go.RowKit

set_option maxRecDepth 100000 in
set_option maxHeartbeats 2000000 in
theorem refLong8_any (x : Rp.V) (c : Nat) (w : World) (hc : c = 101 ∨ c = 102 ∨ c = 117 ∨ c = 76 ∨ c = 115 ∨ c = 116) : Calls Tryz.prog 61 #[x.val, .int .u8 (c : Int)] w fun e w' => e = .returned (.int .u64 ((x.long c : Nat) : Int)) ∧ Below w.heap.size w w' := by
  have hb : ∀ (o : Obj), Below w.heap.size w (w.alloc o) := fun o => (Below.refl _ _).alloc (Nat.le_refl _) _
  have HB := Lib.hid hb
  clear hb
  unfold Rp.V.val Rp.V.cells
  rcases hc with rfl | rfl | rfl | rfl | rfl | rfl
  all_goals
    go_enter Tryz.func61, Tryz.ntmps61
    go_wp2_with fail
    go_ret
    exact ⟨rfl, HB.out _⟩
theorem u16u64 (n : Nat) (h : n < 65536) : IntKind.u64.wrap (n : Int) = n := by
  simp [IntKind.wrap, IntKind.bits, IntKind.signed]
  omega
theorem u8_wrap8 (n : Nat) : IntKind.u8.wrap (n : Int) = ((n % 256 : Nat) : Int) := by
  simp [IntKind.wrap, IntKind.bits, IntKind.signed]
set_option maxRecDepth 100000 in
set_option maxHeartbeats 2000000 in
theorem refPart8_num (x : Rp.V) (rows : List Rw) (gone : List Pn) (c : Nat) (w : World) (ok : x.ok) (hc : c = 101 ∨ c = 102 ∨ c = 117 ∨ c = 76 ∨ c = 115 ∨ c = 116) : Calls Tryz.prog 26 #[x.val, .int .u8 (c : Int)] w (OwnPost w (x.part rows gone c).length (x.part rows gone c)) := by
  have S0 := (Held.start w).new x.cells 40
  have RC : Hid (∀ W, Held w W [(w.heap.size, 40, x.cells)] → RepCells W w.heap.size x) := Lib.hid fun W hW => (rep_cells hW.top).1
  have e1 : x.part rows gone c = Pk.be 8 (x.long c) := by
    unfold Rp.V.part
    rw [if_neg (by omega), if_neg (by omega), if_neg (by omega), if_neg (by omega)]
  have hl : x.long c < 18446744073709551616 := by
    obtain ⟨-, -, -, h1, h2, h3, h4, h5, h6⟩ := ok
    unfold Rp.V.long
    repeat' split
    all_goals assumption
  rw [e1, Pk.be_len]
  have CL : Hid (∀ W, Calls Tryz.prog 61 #[x.val, .int .u8 (c : Int)] W fun e w' => e = .returned (.int .u64 ((x.long c : Nat) : Int)) ∧ Below W.heap.size W w') := Lib.hid fun W => refLong8_any x c W hc
  have HS := Lib.hid S0
  generalize x.long c = nn at *
  clear e1 S0 ok
  obtain ⟨k, id, code, last, ep, fl, un, le, st, ti, A, n, c0, G, m, d⟩ := x
  unfold Rp.V.val RepCells at *
  unfold Rp.V.cells at *
  dsimp only at *
  rcases hc with rfl | rfl | rfl | rfl | rfl | rfl
  all_goals
    go_enter Tryz.func26, Tryz.ntmps26
    go_wp2_with fail
    refine (CL.out _).mono ?_
    rintro e w1 ⟨rfl, b1⟩
    have D1 := Lib.hid (below_next HS.out.1 b1)
    clear b1
    go_wp2_with fail
    refine (refNumber_any _ nn 8 _ rfl hl (by unfold Size; omega)).mono ?_
    rintro e w2 ⟨A2, c2, rfl, o2, b2⟩
    have D2 := Lib.hid (And.intro (own_lower o2 D1.out.size) (below_next D1.out b2))
    clear o2 b2
    go_wp2_with fail
    go_ret
    exact ⟨A2, c2, rfl, D2.out.1, D2.out.2⟩
end Go.Proofs.YtognlgklepgemaaGreat

namespace Go.Proofs.YtognlgklepgemaaGreat
open Go.ChangeShapes Go.WideShapes Go.ChangeAt Go.RowKit

theorem own_one8 {w : World} {B g : Nat} {x : Nat} {y : Int} (hg : Blk w g 5 #[.int .u8 y]) (hB : B ≤ g) (hy : y = x) : w.ownsRow B 5 1 (.slice (some ⟨g, 0, none⟩) 1 1) 1 (u8s [x]) := by
  subst hy
  exact ⟨rfl, .inr ⟨g, 1, _, rfl, hB, hg, Nat.le_refl _, by unfold maxLen; omega, rfl, rfl⟩⟩
set_option maxRecDepth 100000 in
set_option maxHeartbeats 2000000 in
theorem refPart8_small (x : Rp.V) (rows : List Rw) (gone : List Pn) (c : Nat) (w : World) (ok : x.ok) (hc : c = 99 ∨ c = 108) : Calls Tryz.prog 26 #[x.val, .int .u8 (c : Int)] w (OwnPost w (x.part rows gone c).length (x.part rows gone c)) := by
  have S0 := (Held.start w).new x.cells 40
  have RC : Hid (∀ W, Held w W [(w.heap.size, 40, x.cells)] → RepCells W w.heap.size x) := Lib.hid fun W hW => (rep_cells hW.top).1
  have hco := ok.2.2.1
  have hcw := u16u64 x.code hco
  have e1 : x.part rows gone 99 = Pk.be 2 x.code := rfl
  have e2 : x.part rows gone 108 = [if x.last then 1 else 0] := rfl
  have HS := Lib.hid S0
  rcases hc with rfl | rfl
  · rw [e1, Pk.be_len]
    clear e1 e2 S0 ok
    obtain ⟨k, id, code, last, ep, fl, un, le, st, ti, A, n, c0, G, m, d⟩ := x
    unfold Rp.V.val RepCells at *
    unfold Rp.V.cells at *
    dsimp only at *
    go_enter Tryz.func26, Tryz.ntmps26
    go_wp2_with fail
    refine (refNumber_any _ code 2 _ rfl (by omega) (by unfold Size; omega)).mono ?_
    rintro e w2 ⟨A2, c2, rfl, o2, b2⟩
    have D2 := Lib.hid (And.intro (own_lower o2 HS.out.1.size) (below_next HS.out.1 b2))
    clear o2 b2
    go_wp2_with fail
    go_ret
    exact ⟨A2, c2, rfl, D2.out.1, D2.out.2⟩
  · rw [e2]
    clear e1 e2 S0 ok hcw
    obtain ⟨k, id, code, last, ep, fl, un, le, st, ti, A, n, c0, G, m, d⟩ := x
    unfold Rp.V.val RepCells at *
    unfold Rp.V.cells at *
    dsimp only at *
    have hz := HS.out.1.size
    have HO : Hid (∀ (y : Int) (z : Nat), y = z → ((w.alloc (.cells #[.int .u8 (k : Int), .int .u32 (id : Int), .int .u16 (code : Int), .bool last, .int .u64 (ep : Int), .int .u64 (fl : Int), .int .u64 (un : Int), .int .u64 (le : Int), .int .u64 (st : Int), .int .u64 (ti : Int), .slice A n c0, .slice G m d] 40)).alloc (.cells #[.int .u8 y] 5)).ownsRow w.heap.size 5 1 (.slice (some ⟨w.heap.size + 1, 0, none⟩) 1 1) 1 (u8s [z])) := Lib.hid fun y z hy => own_one8 (blk_nw _ _ _ _ (by simp)) (by omega) hy
    cases last
    · go_enter Tryz.func26, Tryz.ntmps26
      go_wp2_with fail
      go_ret
      exact ⟨_, _, rfl, HO.out 0 0 rfl, HS.out.1.alloc hz _⟩
    · go_enter Tryz.func26, Tryz.ntmps26
      go_wp2_with fail
      go_ret
      exact ⟨_, _, rfl, HO.out 1 1 rfl, HS.out.1.alloc hz _⟩
theorem flat_snoc8 {α β : Type} [Inhabited α] (f : α → List β) (l : List α) (j : Nat) (h : j < l.length) : (l.take (j + 1)).flatMap f = (l.take j).flatMap f ++ f (l.getD j default) := by
  rw [List.take_succ_eq_append_getElem h, List.flatMap_append, List.getD_eq_getElem?_getD, List.getElem?_eq_getElem h]
  simp
theorem flat_le8 {α : Type} (f : α → List Nat) (K : Nat) (l : List α) (h : ∀ a ∈ l, (f a).length ≤ K) : (l.flatMap f).length ≤ K * l.length := by
  induction l with
  | nil => simp
  | cons a l ih =>
    have h1 := ih (fun q hq => h q (List.mem_cons_of_mem _ hq))
    have h2 := h a (List.mem_cons_self ..)
    rw [List.flatMap_cons, List.length_append, List.length_cons, Nat.mul_succ]
    omega
theorem own_some8 {w : World} {base n c : Nat} {e : TypeId} {A : Option Addr} {xs : List Value} (h : w.ownsRow base e 1 (.slice A n c) n xs) (h0 : 0 < n) : ∃ g, A = some ⟨g, 0, none⟩ ∧ base ≤ g ∧ ∀ j u, xs[j]? = some u → w.cell? ((⟨g, 0, none⟩ : Addr).add j) = some u := by
  obtain ⟨g, cap, hv, hc, hlt⟩ := h.form h0
  have hl := (h.lt g (by rw [hv]; rfl)).1
  injection hv with hv
  subst hv
  exact ⟨g, rfl, hl, h.cells (g := g) rfl⟩
set_option maxRecDepth 100000 in
set_option maxHeartbeats 4000000 in
theorem refPart8_gone (x : Rp.V) (rows : List Rw) (gone : List Pn) (B : Nat) (w : World) (hx : x.In w B rows gone) (hB : B ≤ w.heap.size) (hm : x.m ≤ 1000) (hk : ∀ r ∈ gone, r.k.size ≤ 60000) : Calls Tryz.prog 26 #[x.val, .int .u8 103] w (OwnPost w (x.part rows gone 103).length (x.part rows gone 103)) := by
  obtain ⟨iu, hu, hu0, hu1, hu2⟩ := info_parts Tryz.info5
  have HU := Lib.hid (And.intro hu (And.intro hu0 (And.intro hu1 hu2)))
  clear hu hu0 hu1 hu2
  have S0 := (Held.start w).new x.cells 40
  have RC : Hid (∀ W, Held w W [(w.heap.size, 40, x.cells)] → RepCells W w.heap.size x) := Lib.hid fun W hW => (rep_cells hW.top).1
  have e1 : x.part rows gone 103 = x.m % 256 :: gone.flatMap Rp.pane := rfl
  rw [e1]
  have HS := Lib.hid S0
  have HP := Lib.hid (And.intro hx.2 (And.intro hB hk))
  have hlen := hx.2.1
  have hq := u8_wrap8 x.m
  clear e1 S0 hx hB hk
  obtain ⟨k, id, code, last, ep, fl, un, le, st, ti, A, n, c0, G, m, d⟩ := x
  unfold Rp.V.val RepCells at *
  unfold Rp.V.cells at *
  dsimp only at *
  have S1 := Lib.hid ((HS.out.step ((Below.refl _ _).alloc (Nat.le_refl _) (.cells #[.int .u8 ((m % 256 : Nat) : Int)] 5))))
  have O1 := Lib.hid (own_one8 (w := (w.alloc (.cells #[.int .u8 (k : Int), .int .u32 (id : Int), .int .u16 (code : Int), .bool last, .int .u64 (ep : Int), .int .u64 (fl : Int), .int .u64 (un : Int), .int .u64 (le : Int), .int .u64 (st : Int), .int .u64 (ti : Int), .slice A n c0, .slice G m d] 40)).alloc (.cells #[.int .u8 ((m % 256 : Nat) : Int)] 5)) (B := w.heap.size + 1) (g := w.heap.size + 1) (x := m % 256) (blk_nw _ _ _ _ (by simp)) (Nat.le_refl _) rfl)
  go_enter Tryz.func26, Tryz.ntmps26
  go_wp2_with fail
  clear hq
  go_loopw [8, 9] (fun r i wr => ∃ (j L : Nat), j ≤ m ∧ i = .int .i64 (j : Int) ∧ (m % 256 :: (gone.take j).flatMap Rp.pane).length = L ∧ wr.ownsRow (w.heap.size + 1) 5 1 r L (u8s (m % 256 :: (gone.take j).flatMap Rp.pane)) ∧ Held w wr [(w.heap.size, 40, #[.int .u8 (k : Int), .int .u32 (id : Int), .int .u16 (code : Int), .bool last, .int .u64 (ep : Int), .int .u64 (fl : Int), .int .u64 (un : Int), .int .u64 (le : Int), .int .u64 (st : Int), .int .u64 (ti : Int), .slice A n c0, .slice G m d])]) (fun _ i _ => m - (intOf i).toNat)
  case atStart => exact ⟨0, 1, by omega, rfl, rfl, O1.out, S1.out⟩
  case round =>
    obtain ⟨j, L, hj, rfl, hL, hown, hheld⟩ := hrel
    obtain ⟨-, -, -, -, -, -, -, -, -, -, -, c11⟩ := RC.out _ hheld
    have HO := Lib.hid (And.intro hown (And.intro hheld hL))
    have hL2 : L ≤ 100000000 := by
      rw [← hL, List.length_cons]
      have h1 := flat_le8 Rp.pane 60018 (gone.take j) (fun a ha => by
        rw [Rp.pane_len]
        have := HP.out.2.2 a (List.mem_of_mem_take ha)
        omega)
      rw [List.length_take] at h1
      omega
    by_cases hlt : j < m
    · obtain ⟨b, off, rfl, hbB, x0, x1, x2⟩ := HP.out.1.pan hlt
      obtain ⟨r, hr⟩ : ∃ r, gone.getD j default = r := ⟨_, rfl⟩
      have hrk : r.k.size ≤ 60000 := by
        rw [← hr, List.getD_eq_getElem?_getD, List.getElem?_eq_getElem (by omega)]
        exact HP.out.2.2 _ (List.getElem_mem _)
      rw [hr] at x0 x1 x2
      have hz : b < w.heap.size := by have := HP.out.2.1; omega
      have d0 := (hheld.1.cell (p := ⟨b, _, none⟩) hz).trans x0
      have d1 := (hheld.1.cell (p := ⟨b, _, none⟩) hz).trans x1
      have d2 := (hheld.1.cell (p := ⟨b, _, none⟩) hz).trans x2
      have hsn := flat_snoc8 Rp.pane gone j (by omega)
      rw [hr] at hsn
      have HN := Lib.hid hsn
      have CP := Lib.hid (refPane8_any r wr (by omega))
      have i1 : (0 : Int) ≤ j := by omega
      have i2 : (j : Int) < m := by omega
      clear x0 x1 x2 hown hheld hL hsn hr
      go_wp2_with fail
      clear d0 d1 d2 c11
      refine CP.out.mono ?_
      rintro e w2 ⟨A2, c2, rfl, o2, b2⟩
      obtain ⟨g2, rfl, hg2, hc2⟩ := own_some8 o2 (by omega)
      have O2 := Lib.hid (And.intro (own_below HO.out.1 b2) (And.intro hc2 (HO.out.2.1.step b2)))
      have hz2 : w.heap.size + 1 ≤ w2.heap.size := by have := O2.out.2.2.top.lt; omega
      clear o2 b2 hc2
      go_wp2_with (at_builtin; refine wpList_append_lies _ rfl _ _ 33 rfl (w.heap.size + 1) 5 iu (.int .u8 0) 1 1 Tryz.underlying33 HU.out.1 HU.out.2.1 HU.out.2.2.1 HU.out.2.2.2 rfl (by decide) _ L _ rfl O2.out.1 ⟨g2, 0, none⟩ (r.k.size + 18) _ (u8s (Rp.pane r)) rfl (by rw [u8s_len, Rp.pane_len]; omega) O2.out.2.1 (u8s_one _) (by omega) (by unfold maxLen; omega) (by omega) hz2 _ rfl ?_; intro g3 cap3 w3 hown hgrow _ _)
      have S3 := O2.out.2.2.grow O2.out.1 hgrow (Nat.le_succ _) (by intro x hx; rw [List.mem_singleton.1 hx]; exact Nat.lt_succ_self _)
      refine ⟨⟨j + 1, L + (r.k.size + 18), by omega, by go_num, ?_, ?_, S3⟩, by simp [intOf]; omega⟩
      · rw [HN.out, ← List.cons_append, List.length_append, HO.out.2.2, Rp.pane_len]
      · rw [HN.out, ← List.cons_append]
        exact own_snoc hown
    · obtain rfl : j = m := by omega
      rw [List.take_of_length_le (by omega)] at hown hL
      obtain ⟨A1, c1, rfl⟩ := own_slice hown
      have HF := Lib.hid (And.intro hown (And.intro hL hheld))
      clear hown hL hheld
      go_wp2_with fail
      go_ret
      obtain ⟨h1, h2, h3⟩ := HF.out
      subst h2
      exact ⟨A1, c1, rfl, own_lower h1 (Nat.le_succ _), h3.1⟩
end Go.Proofs.YtognlgklepgemaaGreat

namespace Go.Proofs.YtognlgklepgemaaGreat
open Go.ChangeShapes Go.WideShapes Go.ChangeAt Go.RowKit

theorem rows_four8 {w : World} {B c1 c2 c3 c4 : Nat} {a1 a2 a3 a4 : Option Addr} {l1 l2 l3 l4 : List Nat} {t : TypeId} (h1 : Bytes w B a1 8 l1) (h2 : Bytes w B a2 8 l2) (h3 : Bytes w B a3 8 l3) (h4 : Bytes w B a4 8 l4) (hB : B ≤ w.heap.size) :
    RowsOf (w.alloc (.cells #[.slice a1 8 c1, .slice a2 8 c2, .slice a3 8 c3, .slice a4 8 c4] t)) (w.heap.size + 1) (some ⟨w.heap.size, 0, none⟩) 4 [l1, l2, l3, l4] := by
  have hk := Blk.new w t #[.slice a1 8 c1, .slice a2 8 c2, .slice a3 8 c3, .slice a4 8 c4]
  refine ⟨rfl, fun _ => ⟨w.heap.size, 0, rfl, by omega, fun i hi => ?_⟩⟩
  match i, hi with
  | 0, _ => exact ⟨a1, 8, c1, hk.cell 0, by omega, (h1.alloc hB _).more (by omega)⟩
  | 1, _ => exact ⟨a2, 8, c2, hk.cell 1, by omega, (h2.alloc hB _).more (by omega)⟩
  | 2, _ => exact ⟨a3, 8, c3, hk.cell 2, by omega, (h3.alloc hB _).more (by omega)⟩
  | 3, _ => exact ⟨a4, 8, c4, hk.cell 3, by omega, (h4.alloc hB _).more (by omega)⟩
theorem refJoin_agg (a : Ag.A) (c B : Nat) (A : Option Addr) (w : World) (hr : RowsOf w B A 4 [Pk.be 8 (Rp.u a.c), Pk.be 8 (Rp.u a.s), Pk.be 8 (Rp.u a.lo), Pk.be 8 (Rp.u a.hi)]) (hB : B ≤ w.heap.size) :
    Calls Tryz.prog 59 #[.slice A 4 c] w (OwnPost w 32 (Rp.agg a)) := by
  have e : [Pk.be 8 (Rp.u a.c), Pk.be 8 (Rp.u a.s), Pk.be 8 (Rp.u a.lo), Pk.be 8 (Rp.u a.hi)].flatten = Rp.agg a := by simp [Rp.agg]
  have h := refJoin_any 4 c B A _ w hr hB (by omega) (by rw [e, Rp.agg_len]; omega)
  rw [e, Rp.agg_len] at h
  exact h
theorem own_bytes8 {w : World} {base n c : Nat} {A : Option Addr} {l : List Nat} {e : TypeId} (h : w.ownsRow base e 1 (.slice A n c) n (u8s l)) (hl : ∀ x ∈ l, x < 256) {w' : World} (hb : Below w.heap.size w w') : Bytes w' w'.heap.size A n l := ((Bytes.of_own h hl).below hb (Nat.le_refl _)).more hb.size
set_option maxRecDepth 100000 in
set_option maxHeartbeats 8000000 in
theorem refPart8_rows (x : Rp.V) (rows : List Rw) (gone : List Pn) (B : Nat) (w : World) (hx : x.In w B rows gone) (hB : B ≤ w.heap.size) (hm : x.n ≤ 1000) (hk : ∀ r ∈ rows, r.p.k.size ≤ 60000) : Calls Tryz.prog 26 #[x.val, .int .u8 114] w (OwnPost w (x.part rows gone 114).length (x.part rows gone 114)) := by
  obtain ⟨iu, hu, hu0, hu1, hu2⟩ := info_parts Tryz.info5
  have HU := Lib.hid (And.intro hu (And.intro hu0 (And.intro hu1 hu2)))
  clear hu hu0 hu1 hu2
  have S0 := (Held.start w).new x.cells 40
  have RC : Hid (∀ W, Held w W [(w.heap.size, 40, x.cells)] → RepCells W w.heap.size x) := Lib.hid fun W hW => (rep_cells hW.top).1
  have e1 : x.part rows gone 114 = x.n % 256 :: rows.flatMap Rp.row := rfl
  rw [e1]
  have HS := Lib.hid S0
  have HP := Lib.hid (And.intro hx.1 (And.intro hB hk))
  have hlen := hx.1.1
  have hq := u8_wrap8 x.n
  clear e1 S0 hx hB hk
  obtain ⟨k, id, code, last, ep, fl, un, le, st, ti, A, n, c0, G, m, d⟩ := x
  unfold Rp.V.val RepCells at *
  unfold Rp.V.cells at *
  dsimp only at *
  have S1 := Lib.hid ((HS.out.step ((Below.refl _ _).alloc (Nat.le_refl _) (.cells #[.int .u8 ((n % 256 : Nat) : Int)] 5))))
  have O1 := Lib.hid (own_one8 (w := (w.alloc (.cells #[.int .u8 (k : Int), .int .u32 (id : Int), .int .u16 (code : Int), .bool last, .int .u64 (ep : Int), .int .u64 (fl : Int), .int .u64 (un : Int), .int .u64 (le : Int), .int .u64 (st : Int), .int .u64 (ti : Int), .slice A n c0, .slice G m d] 40)).alloc (.cells #[.int .u8 ((n % 256 : Nat) : Int)] 5)) (B := w.heap.size + 1) (g := w.heap.size + 1) (x := n % 256) (blk_nw _ _ _ _ (by simp)) (Nat.le_refl _) rfl)
  go_enter Tryz.func26, Tryz.ntmps26
  go_wp2_with fail
  clear hq
  go_loopw [5, 6] (fun r i wr => ∃ (j L : Nat), j ≤ n ∧ i = .int .i64 (j : Int) ∧ (n % 256 :: (rows.take j).flatMap Rp.row).length = L ∧ wr.ownsRow (w.heap.size + 1) 5 1 r L (u8s (n % 256 :: (rows.take j).flatMap Rp.row)) ∧ Held w wr [(w.heap.size, 40, #[.int .u8 (k : Int), .int .u32 (id : Int), .int .u16 (code : Int), .bool last, .int .u64 (ep : Int), .int .u64 (fl : Int), .int .u64 (un : Int), .int .u64 (le : Int), .int .u64 (st : Int), .int .u64 (ti : Int), .slice A n c0, .slice G m d])]) (fun _ i _ => n - (intOf i).toNat)
  case atStart => exact ⟨0, 1, by omega, rfl, rfl, O1.out, S1.out⟩
  case round =>
    obtain ⟨j, L, hj, rfl, hL, hown, hheld⟩ := hrel
    obtain ⟨-, -, -, -, -, -, -, -, -, -, c10, -⟩ := RC.out _ hheld
    have HO := Lib.hid (And.intro hown (And.intro hheld hL))
    have hL2 : L ≤ 100000000 := by
      rw [← hL, List.length_cons]
      have h1 := flat_le8 Rp.row 60050 (rows.take j) (fun a ha => by
        rw [Rp.row_len]
        have := HP.out.2.2 a (List.mem_of_mem_take ha)
        omega)
      rw [List.length_take] at h1
      omega
    by_cases hlt : j < n
    · obtain ⟨b, off, rfl, hbB, x0, x1, x2, x3, x4, x5, x6⟩ := HP.out.1.row hlt
      obtain ⟨r, hr⟩ : ∃ r, rows.getD j default = r := ⟨_, rfl⟩
      have hrk : r.p.k.size ≤ 60000 := by
        rw [← hr, List.getD_eq_getElem?_getD, List.getElem?_eq_getElem (by omega)]
        exact HP.out.2.2 _ (List.getElem_mem _)
      rw [hr] at x0 x1 x2 x3 x4 x5 x6
      have hz : b < w.heap.size := by have := HP.out.2.1; omega
      have d0 := (hheld.1.cell (p := ⟨b, _, none⟩) hz).trans x0
      have d1 := (hheld.1.cell (p := ⟨b, _, none⟩) hz).trans x1
      have d2 := (hheld.1.cell (p := ⟨b, _, none⟩) hz).trans x2
      have d3 := (hheld.1.cell (p := ⟨b, _, none⟩) hz).trans x3
      have d4 := (hheld.1.cell (p := ⟨b, _, none⟩) hz).trans x4
      have d5 := (hheld.1.cell (p := ⟨b, _, none⟩) hz).trans x5
      have d6 := (hheld.1.cell (p := ⟨b, _, none⟩) hz).trans x6
      have hsn := flat_snoc8 Rp.row rows j (by omega)
      rw [hr] at hsn
      have HN := Lib.hid hsn
      obtain ⟨pp, ⟨ac, sm, lo, hi⟩⟩ := r
      dsimp only at *
      have H2 := Lib.hid (hheld.new #[.int .i64 ac, .int .i64 sm, .int .i64 lo, .int .i64 hi] 91)
      have O1' := Lib.hid (hown.alloc (.cells #[.int .i64 ac, .int .i64 sm, .int .i64 lo, .int .i64 hi] 91))
      obtain ⟨-, -, -, -, -, -, -, -, -, -, e10, -⟩ := RC.out _ (hheld.step ((Below.refl _ _).alloc (Nat.le_refl _) (.cells #[.int .i64 ac, .int .i64 sm, .int .i64 lo, .int .i64 hi] 91)))
      have ba : Below wr.heap.size wr (wr.alloc (.cells #[.int .i64 ac, .int .i64 sm, .int .i64 lo, .int .i64 hi] 91)) := (Below.refl _ _).alloc (Nat.le_refl _) _
      have hzb : b < wr.heap.size := by have := hheld.1.size; omega
      have q0 := (ba.cell (p := ⟨b, _, none⟩) hzb).trans d0
      have q1 := (ba.cell (p := ⟨b, _, none⟩) hzb).trans d1
      have q2 := (ba.cell (p := ⟨b, _, none⟩) hzb).trans d2
      have CP := Lib.hid (refPane8_any pp (wr.alloc (.cells #[.int .i64 ac, .int .i64 sm, .int .i64 lo, .int .i64 hi] 91)) (by omega))
      have i1 : (0 : Int) ≤ j := by omega
      have i2 : (j : Int) < n := by omega
      clear x0 x1 x2 x3 x4 x5 x6 hown hheld hL hsn hr ba hzb d0 d1 d2
      go_wp2_with fail
      clear q0 q1 q2 d3 d4 d5 d6 c10 e10
      refine CP.out.mono ?_
      rintro e w2 ⟨A2, c2, rfl, o2, b2⟩
      obtain ⟨g2, rfl, hg2, hc2⟩ := own_some8 o2 (by omega)
      have O2 := Lib.hid (And.intro (own_below O1'.out b2) (And.intro hc2 (H2.out.step b2)))
      have hz2 : w.heap.size + 1 ≤ w2.heap.size := by have := (O2.out.2.2.2 _ (List.mem_cons_of_mem _ (List.mem_singleton_self _))).lt; dsimp only at this; omega
      have hzr : w.heap.size + 1 ≤ wr.heap.size := by have := (H2.out.2 _ (List.mem_cons_of_mem _ (List.mem_singleton_self _))); have h3 := HO.out.2.1.top.lt; omega
      clear o2 b2 hc2
      go_wp2_with (at_builtin; refine wpList_append_lies _ rfl _ _ 33 rfl (w.heap.size + 1) 5 iu (.int .u8 0) 1 1 Tryz.underlying33 HU.out.1 HU.out.2.1 HU.out.2.2.1 HU.out.2.2.2 rfl (by decide) _ L _ rfl O2.out.1 ⟨g2, 0, none⟩ (pp.k.size + 18) _ (u8s (Rp.pane pp)) rfl (by rw [u8s_len, Rp.pane_len]; omega) O2.out.2.1 (u8s_one _) (by omega) (by unfold maxLen; omega) (by omega) hz2 _ rfl ?_; intro g3 cap3 w3 hown hgrow _ _)
      have ka : Blk w3 wr.heap.size 91 #[.int .i64 ac, .int .i64 sm, .int .i64 lo, .int .i64 hi] := Blk.off (O2.out.2.2.2 _ (List.mem_cons_self ..)) O2.out.1 hgrow (by decide)
      have kr := Blk.off (show Blk w2 w.heap.size 40 #[.int .u8 (k : Int), .int .u32 (id : Int), .int .u16 (code : Int), .bool last, .int .u64 (ep : Int), .int .u64 (fl : Int), .int .u64 (un : Int), .int .u64 (le : Int), .int .u64 (st : Int), .int .u64 (ti : Int), .slice (some ⟨b, off, none⟩) n c0, .slice G m d] from O2.out.2.2.2 _ (List.mem_cons_of_mem _ (List.mem_singleton_self _))) O2.out.1 hgrow (by decide)
      have bw : Below w.heap.size w w3 := O2.out.2.2.1.grown hgrow (by omega) (fun q hq => by have := (O2.out.1.lt q hq).1; omega)
      have KA : Hid (∀ W, Below w3.heap.size w3 W → W.cell? ⟨wr.heap.size, 0, none⟩ = some (.int .i64 ac) ∧ W.cell? ⟨wr.heap.size, 1, none⟩ = some (.int .i64 sm) ∧ W.cell? ⟨wr.heap.size, 2, none⟩ = some (.int .i64 lo) ∧ W.cell? ⟨wr.heap.size, 3, none⟩ = some (.int .i64 hi)) := Lib.hid fun W hW => by
        have hk := ka.below hW ka.lt
        exact ⟨hk.cell 0, hk.cell 1, hk.cell 2, hk.cell 3⟩
      have H3 := Lib.hid (And.intro (own_snoc hown) (And.intro kr (And.intro bw ka)))
      have D0 : Hid (Below w3.heap.size w3 w3.drew) := Lib.hid (Below.refl _ _).drew
      have hz3 : w2.heap.size ≤ w3.heap.size := hgrow.size
      have hL3 : L + (pp.k.size + 18) ≤ 100070000 := by omega
      obtain ⟨L3, hL3'⟩ : ∃ L3, L + (pp.k.size + 18) = L3 := ⟨_, rfl⟩
      have HL3 := Lib.hid hL3'
      rw [hL3'] at H3 hL3 ⊢
      clear hown hgrow ka kr bw hL3'
      go_region_held3 (fun W => W.cell? ⟨wr.heap.size, 0, none⟩ = some (.int .i64 ac) ∧ W.cell? ⟨wr.heap.size, 1, none⟩ = some (.int .i64 sm) ∧ W.cell? ⟨wr.heap.size, 2, none⟩ = some (.int .i64 lo) ∧ W.cell? ⟨wr.heap.size, 3, none⟩ = some (.int .i64 hi)) (first | with_reducible exact KA.out _ D0.out | with_reducible exact KA.out _ D1.out | with_reducible exact KA.out _ D2.out | with_reducible exact KA.out _ D3.out | with_reducible exact KA.out _ D4.out | with_reducible exact KA.out _ D5.out | with_reducible exact KA.out _ D6.out | exact KA9.out) (first
        | (go_at_call 60; (with_reducible refine (refInt_any ac (Rp.u ac) _ (Rp.u_eq _) (Rp.u_lt _)).mono ?_); rintro e v1 ⟨A11, c11, rfl, o1, b1⟩; have D1 := Lib.hid (below_next D0.out b1); have P1 := Lib.hid o1; clear o1 b1)
        | (go_at_call 60; (with_reducible refine (refInt_any sm (Rp.u sm) _ (Rp.u_eq _) (Rp.u_lt _)).mono ?_); rintro e v2 ⟨A12, c12, rfl, o2, b2⟩; have D2 := Lib.hid (below_next D1.out b2); have P2 := Lib.hid o2; have P1_2 := Lib.hid (own_below P1.out b2); clear o2 b2)
        | (go_at_call 60; (with_reducible refine (refInt_any lo (Rp.u lo) _ (Rp.u_eq _) (Rp.u_lt _)).mono ?_); rintro e v3 ⟨A13, c13, rfl, o3, b3⟩; have D3 := Lib.hid (below_next D2.out b3); have P3 := Lib.hid o3; have P1_3 := Lib.hid (own_below P1_2.out b3); have P2_3 := Lib.hid (own_below P2.out b3); clear o3 b3)
        | (go_at_call 60; (with_reducible refine (refInt_any hi (Rp.u hi) _ (Rp.u_eq _) (Rp.u_lt _)).mono ?_); rintro e v4 ⟨A14, c14, rfl, o4, b4⟩; have D4 := Lib.hid (below_next D3.out b4); have P4 := Lib.hid o4; have P1_4 := Lib.hid (own_below P1_3.out b4); have P2_4 := Lib.hid (own_below P2_3.out b4); have P3_4 := Lib.hid (own_below P3.out b4); have HR4 := Lib.hid (rows_four8 (c1 := c11) (c2 := c12) (c3 := c13) (c4 := c14) (t := 33) (Bytes.of_own P1_4.out (Pk.be_lt _ _)) (Bytes.of_own P2_4.out (Pk.be_lt _ _)) (Bytes.of_own P3_4.out (Pk.be_lt _ _)) (Bytes.of_own P4.out (Pk.be_lt _ _)) (Nat.le_refl _)); have D5 := Lib.hid (D4.out.alloc D4.out.size (.cells #[.slice A11 8 c11, .slice A12 8 c12, .slice A13 8 c13, .slice A14 8 c14] 33)); clear o4 b4)
        | (go_at_call 59; (with_reducible refine (refJoin_agg ⟨ac, sm, lo, hi⟩ 4 _ _ _ HR4.out (by simp)).mono ?_); rintro e v6 ⟨A16, c16, rfl, o6, b6⟩; obtain ⟨g16, rfl, hg16, hc16⟩ := own_some8 o6 (by omega); have D6 := Lib.hid (below_next D5.out b6); have HD := Lib.hid (And.intro (own_below H3.out.1 D6.out) (And.intro hc16 (show w.heap.size + 1 ≤ v6.heap.size by have := D6.out.size; omega))); have HK := Lib.hid (show Blk v6 wr.heap.size 91 #[.int .i64 ac, .int .i64 sm, .int .i64 lo, .int .i64 hi] from H3.out.2.2.2.below D6.out H3.out.2.2.2.lt); clear o6 b6 hc16)
        | (refine step_append_here rfl (.tmp 52) (.tmp 66) 33 rfl (w.heap.size + 1) 5 iu (.int .u8 0) 1 1 Tryz.underlying33 HU.out.1 HU.out.2.1 HU.out.2.2.1 HU.out.2.2.2 rfl (by decide) (.slice (some ⟨g3, 0, none⟩) L3 cap3) L3 (u8s (n % 256 :: List.flatMap Rp.row (List.take j rows) ++ Rp.pane pp)) rfl HD.out.1 ⟨g16, 0, none⟩ 32 c16 (u8s (Rp.agg ⟨ac, sm, lo, hi⟩)) rfl (by rw [u8s_len, Rp.agg_len]) HD.out.2.1 (u8s_one _) (by decide) (by unfold maxLen; omega) (by omega) HD.out.2.2 _ rfl ?_; intro g9 cap9 v9 hown9 hg9 _ _; have KA9 := Lib.hid (show v9.cell? ⟨wr.heap.size, 0, none⟩ = some (.int .i64 ac) ∧ v9.cell? ⟨wr.heap.size, 1, none⟩ = some (.int .i64 sm) ∧ v9.cell? ⟨wr.heap.size, 2, none⟩ = some (.int .i64 lo) ∧ v9.cell? ⟨wr.heap.size, 3, none⟩ = some (.int .i64 hi) by have hq := HK.out.off HD.out.1 hg9 (by decide); exact ⟨hq.cell 0, hq.cell 1, hq.cell 2, hq.cell 3⟩)))
      go_wp2_with fail
      refine ⟨⟨j + 1, L3 + 32, by omega, by go_num, ?_, ?_, ?_⟩, by simp [intOf]; omega⟩
      · rw [HN.out, ← List.cons_append, List.length_append, HO.out.2.2, Rp.row_len, ← HL3.out]
        dsimp only
        omega
      · rw [HN.out, ← List.cons_append]
        have e3 : n % 256 :: List.flatMap Rp.row (List.take j rows) ++ Rp.pane pp ++ Rp.agg ⟨ac, sm, lo, hi⟩ = n % 256 :: List.flatMap Rp.row (List.take j rows) ++ Rp.row ⟨pp, ⟨ac, sm, lo, hi⟩⟩ := by
          rw [List.append_assoc]
          rfl
        rw [← e3]
        exact own_snoc hown9
      · have hq := (H3.out.2.1.below D6.out H3.out.2.1.lt).off HD.out.1 hg9 (by decide)
        exact ⟨(below_next H3.out.2.2.1 D6.out).grown hg9 (by have := HD.out.2.2; omega) (fun q hq => by have := (HD.out.1.lt q hq).1; omega), fun y hy => by rw [List.mem_singleton.1 hy]; exact hq⟩
    · obtain rfl : j = n := by omega
      rw [List.take_of_length_le (by omega)] at hown hL
      obtain ⟨A1, c1, rfl⟩ := own_slice hown
      have HF := Lib.hid (And.intro hown (And.intro hL hheld))
      clear hown hL hheld
      go_wp2_with fail
      go_ret
      obtain ⟨h1, h2, h3⟩ := HF.out
      subst h2
      exact ⟨A1, c1, rfl, own_lower h1 (Nat.le_succ _), h3.1⟩
end Go.Proofs.YtognlgklepgemaaGreat

namespace Go.Proofs.YtognlgklepgemaaGreat
open Go.ChangeShapes Go.WideShapes Go.ChangeAt Go.RowKit

theorem refPart8_any (x : Rp.V) (rows : List Rw) (gone : List Pn) (c B : Nat) (w : World) (hc : Rp.letter c) (ok : x.ok) (hx : x.In w B rows gone) (hB : B ≤ w.heap.size) (hn : x.n ≤ 1000) (hm : x.m ≤ 1000) (hk : ∀ r ∈ rows, r.p.k.size ≤ 60000) (hk' : ∀ r ∈ gone, r.k.size ≤ 60000) :
    Calls Tryz.prog 26 #[x.val, .int .u8 (c : Int)] w (OwnPost w (x.part rows gone c).length (x.part rows gone c)) := by
  by_cases h1 : c = 114
  · subst h1; exact refPart8_rows x rows gone B w hx hB hn hk
  by_cases h2 : c = 103
  · subst h2; exact refPart8_gone x rows gone B w hx hB hm hk'
  by_cases h3 : c = 99 ∨ c = 108
  · exact refPart8_small x rows gone c w ok h3
  · refine refPart8_num x rows gone c w ok ?_
    unfold Rp.letter at hc
    omega
theorem Rp.part_pos (x : Rp.V) (rows : List Rw) (gone : List Pn) (c : Nat) : 0 < (x.part rows gone c).length := by
  unfold Rp.V.part
  repeat' split
  all_goals simp [Pk.be_len]
theorem take_flat_le {α : Type} (f : α → List Nat) (l : List α) (j : Nat) : ((l.take j).flatMap f).length ≤ (l.flatMap f).length := by
  have h : l.flatMap f = (l.take j).flatMap f ++ (l.drop j).flatMap f := by rw [← List.flatMap_append, List.take_append_drop]
  rw [h, List.length_append]
  omega
set_option maxRecDepth 100000 in
set_option maxHeartbeats 8000000 in
theorem refPut8_any (x : Rp.V) (rows : List Rw) (gone : List Pn) (B : Nat) (w : World) (hx : x.In w B rows gone) (hB : B ≤ w.heap.size) (ok : x.ok) (hn : x.n ≤ 1000) (hm : x.m ≤ 1000) :
    Calls Tryz.prog 8 #[x.val] w (PutR w (Rp.putB x rows gone) (Rp.putE x rows gone)) := by
  obtain ⟨iu, hu, hu0, hu1, hu2⟩ := info_parts Tryz.info5
  have HU := Lib.hid (And.intro hu (And.intro hu0 (And.intro hu1 hu2)))
  clear hu hu0 hu1 hu2
  have S0 := (Held.start w).new x.cells 40
  have HS := Lib.hid S0
  have CR : Hid (∀ W, Below w.heap.size w W → Calls Tryz.prog 20 #[x.val] W fun e w' => e = .returned (.bool (x.right rows gone)) ∧ Below W.heap.size W w') := Lib.hid fun W hW => refRight8_any x B rows gone W (hx.below hW hB) (Nat.le_trans hB hW.size) (by omega) (by omega)
  have RC : Hid (∀ W, Held w W [(w.heap.size, 40, x.cells)] → RepCells W w.heap.size x) := Lib.hid fun W hW => (rep_cells hW.top).1
  cases hr : x.right rows gone
  · have e1 : Rp.putB x rows gone = [] := by unfold Rp.putB; rw [hr]; rfl
    have e2 : Rp.putE x rows gone = 81 := by unfold Rp.putE; rw [hr]; rfl
    rw [e1, e2]
    rw [hr] at CR
    clear e1 e2 S0 hx hB ok hr
    obtain ⟨k, id, code, last, ep, fl, un, le, st, ti, A, n, c, G, m, d⟩ := x
    unfold Rp.V.val at *
    unfold Rp.V.cells at *
    dsimp only at *
    go_enter Tryz.func8, Tryz.ntmps8
    go_wp2_with fail
    refine (CR.out _ HS.out.1).mono ?_
    rintro e w1 ⟨rfl, p1⟩
    have H1 := Lib.hid (HS.out.step p1)
    clear p1
    go_wp2_with fail
    go_ret2
    exact ⟨none, 0, rfl, own_nil _ _ _ _, H1.out.1⟩
  · have e1 : Rp.putB x rows gone = x.bytes rows gone := by unfold Rp.putB; rw [hr]; rfl
    have e2 : Rp.putE x rows gone = 0 := by unfold Rp.putE; rw [hr]; rfl
    rw [e1, e2]
    obtain ⟨-, hk1, hk2, -⟩ := Rp.right_keys hr
    have hlen := Rp.bytes_le hr hx.1.1 hx.2.1
    rw [hr] at CR
    have hk0 := ok.1
    have hid0 := ok.2.1
    have hiw : IntKind.u64.wrap (x.id : Int) = x.id := wrap_u64 x.id (by omega)
    have PP : Hid (∀ W c, Rp.letter c → Below w.heap.size w W → Calls Tryz.prog 26 #[x.val, .int .u8 (c : Int)] W (OwnPost W (x.part rows gone c).length (x.part rows gone c))) := Lib.hid fun W c hc hW =>
      refPart8_any x rows gone c B W hc ok (hx.below hW hB) (Nat.le_trans hB hW.size) hn hm (fun r hr => Nat.le_trans (hk1 r hr) (by omega)) (fun r hr => Nat.le_trans (hk2 r hr) (by omega))
    obtain ⟨P, hP⟩ : ∃ P, Rp.parts x.k = P := ⟨_, rfl⟩
    have hPl := Rp.parts_len x.k
    have hPc := Rp.parts_letter x.k
    have CT : Hid (∀ W, Calls Tryz.prog 25 #[.int .u8 (x.k : Int)] W fun e w' => e = .returned (.string (textOf P)) ∧ Below W.heap.size W w') := Lib.hid fun W => by
      rw [← hP]
      exact refParts8_any x.k W
    have hbs : x.bytes rows gone = (x.k :: Pk.be 4 x.id) ++ P.flatMap (x.part rows gone) := by
      unfold Rp.V.bytes
      rw [hP]
    rw [hbs] at hlen ⊢
    rw [hP] at hPl hPc
    obtain ⟨z, hz⟩ : ∃ z, P.length = z := ⟨_, rfl⟩
    have hzs : (textOf P).size = z := by rw [← hz]; simp [textOf, ByteArray.size]
    rw [hz] at hPl
    have HPP := Lib.hid (And.intro hz (And.intro hPc hlen))
    obtain ⟨pt, hpt⟩ : ∃ f, x.part rows gone = f := ⟨_, rfl⟩
    have HPO : Hid (∀ c, 0 < (pt c).length) := Lib.hid fun c => by rw [← hpt]; exact Rp.part_pos _ _ _ c
    rw [hpt] at PP HPP ⊢
    clear e1 e2 S0 hx hB ok hr hk1 hk2 hlen hP hPc hbs hz hpt
    obtain ⟨k, id, code, last, ep, fl, un, le, st, ti, A, n, c, G, m, d⟩ := x
    unfold Rp.V.val RepCells at *
    unfold Rp.V.cells at *
    dsimp only at *
    go_enter Tryz.func8, Tryz.ntmps8
    go_wp2_with fail
    refine (CR.out _ HS.out.1).mono ?_
    rintro e w1 ⟨rfl, p1⟩
    have S1 := HS.out.step p1
    obtain ⟨c0, -⟩ := RC.out _ S1
    have S2 := S1.step ((Below.refl _ _).alloc (Nat.le_refl _) (.cells #[.int .u8 (k : Int)] 5))
    obtain ⟨q0, q1, -⟩ := RC.out _ S2
    have hz1 : w.heap.size < w1.heap.size := S1.top.lt
    have H2 := Lib.hid (And.intro S2 (own_one8 (w := w1.alloc (.cells #[.int .u8 (k : Int)] 5)) (B := w.heap.size + 1) (x := k) (Blk.new w1 _ _) (by omega) rfl))
    clear p1 S1 S2
    go_wp2_with fail
    clear hiw c0 q1
    refine (refNumber_any _ id 4 _ rfl (by omega) (by unfold Size; omega)).mono ?_
    rintro e w2 ⟨A2, c2, rfl, o2, b2⟩
    obtain ⟨g2, rfl, hg2, hc2⟩ := own_some8 o2 (by omega)
    have O2 := Lib.hid (And.intro (own_below H2.out.2 b2) (And.intro hc2 (H2.out.1.step b2)))
    have hz2 : w.heap.size + 1 ≤ w2.heap.size := by have := b2.size; simp at this; omega
    clear o2 b2 hc2 q0
    go_wp2_with (at_builtin; refine wpList_append_lies _ rfl _ _ 33 rfl (w.heap.size + 1) 5 iu (.int .u8 0) 1 1 Tryz.underlying33 HU.out.1 HU.out.2.1 HU.out.2.2.1 HU.out.2.2.2 rfl (by decide) _ 1 (u8s [k]) rfl O2.out.1 ⟨g2, 0, none⟩ 4 _ (u8s (Pk.be 4 id)) rfl (by rw [u8s_len, Pk.be_len]) O2.out.2.1 (u8s_one _) (by omega) (by unfold maxLen; omega) (by omega) hz2 _ rfl ?_; intro g3 cap3 w3 hown hgrow _ _; obtain ⟨r0, -⟩ := RC.out _ (O2.out.2.2.grow O2.out.1 hgrow (Nat.le_succ _) (by intro x hx; rw [List.mem_singleton.1 hx]; exact Nat.lt_succ_self _)))
    have S3 := O2.out.2.2.grow O2.out.1 hgrow (Nat.le_succ _) (by intro x hx; rw [List.mem_singleton.1 hx]; exact Nat.lt_succ_self _)
    have H3 := Lib.hid (And.intro S3 (own_snoc hown))
    clear S3 hown hgrow
    refine (CT.out _).mono ?_
    rintro e w4 ⟨rfl, b4⟩
    have H4 := Lib.hid (And.intro (H3.out.1.step b4) (own_below H3.out.2 b4))
    clear b4 r0
    go_wp2_with fail
    go_loopw [4, 6] (fun r i wr => ∃ (j L : Nat), j ≤ z ∧ i = .int .i64 (j : Int) ∧ ((k :: Pk.be 4 id) ++ (P.take j).flatMap pt).length = L ∧ wr.ownsRow (w.heap.size + 1) 5 1 r L (u8s ((k :: Pk.be 4 id) ++ (P.take j).flatMap pt)) ∧ Held w wr [(w.heap.size, 40, #[.int .u8 (k : Int), .int .u32 (id : Int), .int .u16 (code : Int), .bool last, .int .u64 (ep : Int), .int .u64 (fl : Int), .int .u64 (un : Int), .int .u64 (le : Int), .int .u64 (st : Int), .int .u64 (ti : Int), .slice A n c, .slice G m d])]) (fun _ i _ => z - (intOf i).toNat)
    case atStart => exact ⟨0, 5, by omega, rfl, by rw [List.take_zero, List.flatMap_nil, List.append_nil, List.length_cons, Pk.be_len], by rw [List.take_zero, List.flatMap_nil, List.append_nil]; exact H4.out.2, H4.out.1⟩
    case round =>
      obtain ⟨j, L, hj, rfl, hL, hown, hheld⟩ := hrel
      obtain ⟨A4, c4, rfl⟩ := own_slice hown
      have HO := Lib.hid (And.intro hown (And.intro hheld hL))
      by_cases hlt : j < z
      · obtain ⟨ch, hch⟩ : ∃ ch, P.getD j 0 = ch := ⟨_, rfl⟩
        have hlet : Rp.letter ch := by
          rw [← hch, List.getD_eq_getElem?_getD, List.getElem?_eq_getElem (by rw [HPP.out.1]; exact hlt)]
          exact HPP.out.2.1 _ (List.getElem_mem _)
        have hcx : ∀ h : j < (textOf P).size, ((textOf P)[j]'h).toNat = ch := fun h => (textOf_at (fun y hy => letter_lt (HPP.out.2.1 y hy)) h).trans hch
        have hsn : (P.take (j + 1)).flatMap pt = (P.take j).flatMap pt ++ pt ch := by
          have h := flat_snoc8 pt P j (by rw [HPP.out.1]; exact hlt)
          rw [h]
          show _ ++ pt (P.getD j 0) = _
          rw [hch]
        have hle : L + (pt ch).length ≤ 5300 := by
          have h := take_flat_le pt P (j + 1)
          rw [hsn, List.length_append] at h
          have h2 := HPP.out.2.2
          rw [List.length_append] at h2 hL
          omega
        have CP := Lib.hid (PP.out wr.drew ch hlet hheld.1.drew)
        have PC : Hid (∀ W, Below wr.heap.size wr W → RepCells W w.heap.size ⟨k, id, code, last, ep, fl, un, le, st, ti, A, n, c, G, m, d⟩) := Lib.hid fun W hW => RC.out _ (hheld.step hW)
        unfold RepCells at PC
        dsimp only at PC
        have D0 : Hid (Below wr.heap.size wr wr.drew) := Lib.hid (Below.refl _ _).drew
        have O0 : Hid (wr.drew.ownsRow (w.heap.size + 1) 5 1 (.slice A4 L c4) L (u8s ((k :: Pk.be 4 id) ++ (P.take j).flatMap pt)) ∧ Held w wr.drew [(w.heap.size, 40, #[.int .u8 (k : Int), .int .u32 (id : Int), .int .u16 (code : Int), .bool last, .int .u64 (ep : Int), .int .u64 (fl : Int), .int .u64 (un : Int), .int .u64 (le : Int), .int .u64 (st : Int), .int .u64 (ti : Int), .slice A n c, .slice G m d])]) := Lib.hid ⟨hown, hheld.step (Below.refl _ _).drew⟩
        have hi1 : (0 : Int) ≤ j := by omega
        have hi2 : (j : Int) < z := by omega
        have hzr : w.heap.size + 1 ≤ wr.heap.size := hheld.top.lt
        have HN := Lib.hid hsn
        obtain ⟨ln, hln⟩ : ∃ ln, (pt ch).length = ln := ⟨_, rfl⟩
        rw [hln] at CP hle
        have hlp : 0 < ln := by rw [← hln]; exact HPO.out ch
        have HLN := Lib.hid hln
        clear hown hheld hL hsn hch hlet hln
        go_wp2_with fail
        go_region_held3 (fun W => W.cell? ⟨w.heap.size, 0, none⟩ = some (.int .u8 (k : Int)) ∧ W.cell? ⟨w.heap.size, 1, none⟩ = some (.int .u32 (id : Int)) ∧ W.cell? ⟨w.heap.size, 2, none⟩ = some (.int .u16 (code : Int)) ∧ W.cell? ⟨w.heap.size, 3, none⟩ = some (.bool last) ∧ W.cell? ⟨w.heap.size, 4, none⟩ = some (.int .u64 (ep : Int)) ∧ W.cell? ⟨w.heap.size, 5, none⟩ = some (.int .u64 (fl : Int)) ∧ W.cell? ⟨w.heap.size, 6, none⟩ = some (.int .u64 (un : Int)) ∧ W.cell? ⟨w.heap.size, 7, none⟩ = some (.int .u64 (le : Int)) ∧ W.cell? ⟨w.heap.size, 8, none⟩ = some (.int .u64 (st : Int)) ∧ W.cell? ⟨w.heap.size, 9, none⟩ = some (.int .u64 (ti : Int)) ∧ W.cell? ⟨w.heap.size, 10, none⟩ = some (.slice A n c) ∧ W.cell? ⟨w.heap.size, 11, none⟩ = some (.slice G m d)) (first | with_reducible exact PC.out _ D0.out | with_reducible exact PC.out _ D1.out | exact KC9.out) (first
          | (go_at_call 26; (with_reducible refine CP.out.mono ?_); rintro e w5 ⟨A5, c5, rfl, o5, b5⟩; obtain ⟨g5, rfl, hg5, hc5⟩ := own_some8 o5 hlp; have D1 := Lib.hid (below_next D0.out b5); have HD := Lib.hid (And.intro (own_below O0.out.1 b5) (And.intro hc5 (And.intro (O0.out.2.step b5) (show w.heap.size + 1 ≤ w5.heap.size by have := D1.out.size; omega)))); clear o5 b5 hc5)
          | (refine step_append_here rfl (.tmp 28) (.tmp 33) 33 rfl (w.heap.size + 1) 5 iu (.int .u8 0) 1 1 Tryz.underlying33 HU.out.1 HU.out.2.1 HU.out.2.2.1 HU.out.2.2.2 rfl (by decide) (.slice A4 L c4) L (u8s ((k :: Pk.be 4 id) ++ (P.take j).flatMap pt)) rfl HD.out.1 ⟨g5, 0, none⟩ ln c5 (u8s (pt ch)) rfl (by rw [u8s_len, HLN.out]; omega) HD.out.2.1 (u8s_one _) hlp (by unfold maxLen; omega) (by omega) HD.out.2.2.2 _ rfl ?_; intro g9 cap9 w9 hown9 hg9 _ _; have S9 := Lib.hid (HD.out.2.2.1.grow HD.out.1 hg9 (Nat.le_succ _) (by intro x hx; rw [List.mem_singleton.1 hx]; exact Nat.lt_succ_self _)); have KC9 := Lib.hid (RC.out _ S9.out)))
        go_wp2_with fail
        refine ⟨⟨j + 1, L + ln, by omega, by go_num, ?_, ?_, S9.out⟩, by simp [intOf]; omega⟩
        · rw [HN.out, ← List.append_assoc, List.length_append, HO.out.2.2, HLN.out]
        · rw [HN.out, ← List.append_assoc]
          exact own_snoc hown9
      · obtain rfl : j = z := by omega
        rw [List.take_of_length_le (by rw [HPP.out.1]; exact Nat.le_refl _)] at hown hL
        have HF := Lib.hid (And.intro hown (And.intro hL hheld))
        clear hown hL hheld
        go_wp2_with fail
        go_ret2
        obtain ⟨h1, h2, h3⟩ := HF.out
        subst h2
        exact ⟨A4, c4, rfl, own_lower h1 (Nat.le_succ _), h3.1⟩
end Go.Proofs.YtognlgklepgemaaGreat
