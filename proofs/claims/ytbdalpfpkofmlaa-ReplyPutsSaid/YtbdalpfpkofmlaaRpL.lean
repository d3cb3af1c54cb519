/- Layer 8's reference: a part, packed: rows, panes, code, flag. -/
import Derived.Test.YtbdalpfpkofmlaaRpK
namespace Go.Proofs.Ytbdalpfpkofmlaa
open Go.ChangeShapes Go.WideShapes Go.ChangeAt Go.RowKit

theorem own_one8 {w : World} {B g : Nat} {x : Nat} {y : Int} (hg : Blk w g 5 #[.int .u8 y]) (hB : B ≤ g) (hy : y = x) : w.ownsRow B 5 1 (.slice (some ⟨g, 0, none⟩) 1 1) 1 (u8s [x]) := by
  subst hy
  exact ⟨rfl, .inr ⟨g, 1, _, rfl, hB, hg, Nat.le_refl _, by unfold maxLen; omega, rfl, rfl⟩⟩
set_option maxRecDepth 100000 in
set_option maxHeartbeats 2000000 in
theorem refPart8_small (x : Rp.V) (rows : List Rw) (gone : List Pn) (c : Nat) (w : World) (ok : x.ok) (hc : c = 99 ∨ c = 108) : Calls Try.prog 31 #[x.val, .int .u8 (c : Int)] w (OwnPost w (x.part rows gone c).length (x.part rows gone c)) := by
  have S0 := (Held.start w).new x.cells 34
  have RC : Hid (∀ W, Held w W [(w.heap.size, 34, x.cells)] → RepCells W w.heap.size x) := Lib.hid fun W hW => (rep_cells hW.top).1
  have hco := ok.2.2.1
  have hcw := u16u64 x.code hco
  have e1 : x.part rows gone 99 = Pk.be 2 x.code := rfl
  have e2 : x.part rows gone 108 = [if x.last then 1 else 0] := rfl
  have HS := Lib.hid S0
  rcases hc with rfl | rfl
  · rw [e1, Pk.be_len]
    clear e1 e2 S0 ok
    obtain ⟨k, id, code, last, ep, fl, un, le, st, ti, A, n, c0, G, m, d⟩ := x
    unfold Rp.V.val RepCells at *
    unfold Rp.V.cells at *
    dsimp only at *
    go_enter Try.func31, Try.ntmps31
    go_wp2_with fail
    refine (refNumber_any _ code 2 _ rfl (by omega) (by unfold Size; omega)).mono ?_
    rintro e w2 ⟨A2, c2, rfl, o2, b2⟩
    have D2 := Lib.hid (And.intro (own_lower o2 HS.out.1.size) (below_next HS.out.1 b2))
    clear o2 b2
    go_wp2_with fail
    go_ret
    exact ⟨A2, c2, rfl, D2.out.1, D2.out.2⟩
  · rw [e2]
    clear e1 e2 S0 ok hcw
    obtain ⟨k, id, code, last, ep, fl, un, le, st, ti, A, n, c0, G, m, d⟩ := x
    unfold Rp.V.val RepCells at *
    unfold Rp.V.cells at *
    dsimp only at *
    have hz := HS.out.1.size
    have HO : Hid (∀ (y : Int) (z : Nat), y = z → ((w.alloc (.cells #[.int .u8 (k : Int), .int .u32 (id : Int), .int .u16 (code : Int), .bool last, .int .u64 (ep : Int), .int .u64 (fl : Int), .int .u64 (un : Int), .int .u64 (le : Int), .int .u64 (st : Int), .int .u64 (ti : Int), .slice A n c0, .slice G m d] 34)).alloc (.cells #[.int .u8 y] 5)).ownsRow w.heap.size 5 1 (.slice (some ⟨w.heap.size + 1, 0, none⟩) 1 1) 1 (u8s [z])) := Lib.hid fun y z hy => own_one8 (blk_nw _ _ _ _ (by simp)) (by omega) hy
    cases last
    · go_enter Try.func31, Try.ntmps31
      go_wp2_with fail
      go_ret
      exact ⟨_, _, rfl, HO.out 0 0 rfl, HS.out.1.alloc hz _⟩
    · go_enter Try.func31, Try.ntmps31
      go_wp2_with fail
      go_ret
      exact ⟨_, _, rfl, HO.out 1 1 rfl, HS.out.1.alloc hz _⟩
theorem flat_snoc8 {α β : Type} [Inhabited α] (f : α → List β) (l : List α) (j : Nat) (h : j < l.length) : (l.take (j + 1)).flatMap f = (l.take j).flatMap f ++ f (l.getD j default) := by
  rw [List.take_succ_eq_append_getElem h, List.flatMap_append, List.getD_eq_getElem?_getD, List.getElem?_eq_getElem h]
  simp
theorem flat_le8 {α : Type} (f : α → List Nat) (K : Nat) (l : List α) (h : ∀ a ∈ l, (f a).length ≤ K) : (l.flatMap f).length ≤ K * l.length := by
  induction l with
  | nil => simp
  | cons a l ih =>
    have h1 := ih (fun q hq => h q (List.mem_cons_of_mem _ hq))
    have h2 := h a (List.mem_cons_self ..)
    rw [List.flatMap_cons, List.length_append, List.length_cons, Nat.mul_succ]
    omega
theorem own_some8 {w : World} {base n c : Nat} {e : TypeId} {A : Option Addr} {xs : List Value} (h : w.ownsRow base e 1 (.slice A n c) n xs) (h0 : 0 < n) : ∃ g, A = some ⟨g, 0, none⟩ ∧ base ≤ g ∧ ∀ j u, xs[j]? = some u → w.cell? ((⟨g, 0, none⟩ : Addr).add j) = some u := by
  obtain ⟨g, cap, hv, hc, hlt⟩ := h.form h0
  have hl := (h.lt g (by rw [hv]; rfl)).1
  injection hv with hv
  subst hv
  exact ⟨g, rfl, hl, h.cells (g := g) rfl⟩
set_option maxRecDepth 100000 in
set_option maxHeartbeats 4000000 in
theorem refPart8_gone (x : Rp.V) (rows : List Rw) (gone : List Pn) (B : Nat) (w : World) (hx : x.In w B rows gone) (hB : B ≤ w.heap.size) (hm : x.m ≤ 1000) (hk : ∀ r ∈ gone, r.k.size ≤ 60000) : Calls Try.prog 31 #[x.val, .int .u8 103] w (OwnPost w (x.part rows gone 103).length (x.part rows gone 103)) := by
  obtain ⟨iu, hu, hu0, hu1, hu2⟩ := info_parts Try.info5
  have HU := Lib.hid (And.intro hu (And.intro hu0 (And.intro hu1 hu2)))
  clear hu hu0 hu1 hu2
  have S0 := (Held.start w).new x.cells 34
  have RC : Hid (∀ W, Held w W [(w.heap.size, 34, x.cells)] → RepCells W w.heap.size x) := Lib.hid fun W hW => (rep_cells hW.top).1
  have e1 : x.part rows gone 103 = x.m % 256 :: gone.flatMap Rp.pane := rfl
  rw [e1]
  have HS := Lib.hid S0
  have HP := Lib.hid (And.intro hx.2 (And.intro hB hk))
  have hlen := hx.2.1
  have hq := u8_wrap8 x.m
  clear e1 S0 hx hB hk
  obtain ⟨k, id, code, last, ep, fl, un, le, st, ti, A, n, c0, G, m, d⟩ := x
  unfold Rp.V.val RepCells at *
  unfold Rp.V.cells at *
  dsimp only at *
  have S1 := Lib.hid ((HS.out.step ((Below.refl _ _).alloc (Nat.le_refl _) (.cells #[.int .u8 ((m % 256 : Nat) : Int)] 5))))
  have O1 := Lib.hid (own_one8 (w := (w.alloc (.cells #[.int .u8 (k : Int), .int .u32 (id : Int), .int .u16 (code : Int), .bool last, .int .u64 (ep : Int), .int .u64 (fl : Int), .int .u64 (un : Int), .int .u64 (le : Int), .int .u64 (st : Int), .int .u64 (ti : Int), .slice A n c0, .slice G m d] 34)).alloc (.cells #[.int .u8 ((m % 256 : Nat) : Int)] 5)) (B := w.heap.size + 1) (g := w.heap.size + 1) (x := m % 256) (blk_nw _ _ _ _ (by simp)) (Nat.le_refl _) rfl)
  go_enter Try.func31, Try.ntmps31
  go_wp2_with fail
  clear hq
  go_loopw [8, 9] (fun r i wr => ∃ (j L : Nat), j ≤ m ∧ i = .int .i64 (j : Int) ∧ (m % 256 :: (gone.take j).flatMap Rp.pane).length = L ∧ wr.ownsRow (w.heap.size + 1) 5 1 r L (u8s (m % 256 :: (gone.take j).flatMap Rp.pane)) ∧ Held w wr [(w.heap.size, 34, #[.int .u8 (k : Int), .int .u32 (id : Int), .int .u16 (code : Int), .bool last, .int .u64 (ep : Int), .int .u64 (fl : Int), .int .u64 (un : Int), .int .u64 (le : Int), .int .u64 (st : Int), .int .u64 (ti : Int), .slice A n c0, .slice G m d])]) (fun _ i _ => m - (intOf i).toNat)
  case atStart => exact ⟨0, 1, by omega, rfl, rfl, O1.out, S1.out⟩
  case round =>
    obtain ⟨j, L, hj, rfl, hL, hown, hheld⟩ := hrel
    obtain ⟨-, -, -, -, -, -, -, -, -, -, -, c11⟩ := RC.out _ hheld
    have HO := Lib.hid (And.intro hown (And.intro hheld hL))
    have hL2 : L ≤ 100000000 := by
      rw [← hL, List.length_cons]
      have h1 := flat_le8 Rp.pane 60018 (gone.take j) (fun a ha => by
        rw [Rp.pane_len]
        have := HP.out.2.2 a (List.mem_of_mem_take ha)
        omega)
      rw [List.length_take] at h1
      omega
    by_cases hlt : j < m
    · obtain ⟨b, off, rfl, hbB, x0, x1, x2⟩ := HP.out.1.pan hlt
      obtain ⟨r, hr⟩ : ∃ r, gone.getD j default = r := ⟨_, rfl⟩
      have hrk : r.k.size ≤ 60000 := by
        rw [← hr, List.getD_eq_getElem?_getD, List.getElem?_eq_getElem (by omega)]
        exact HP.out.2.2 _ (List.getElem_mem _)
      rw [hr] at x0 x1 x2
      have hz : b < w.heap.size := by have := HP.out.2.1; omega
      have d0 := (hheld.1.cell (p := ⟨b, _, none⟩) hz).trans x0
      have d1 := (hheld.1.cell (p := ⟨b, _, none⟩) hz).trans x1
      have d2 := (hheld.1.cell (p := ⟨b, _, none⟩) hz).trans x2
      have hsn := flat_snoc8 Rp.pane gone j (by omega)
      rw [hr] at hsn
      have HN := Lib.hid hsn
      have CP := Lib.hid (refPane8_any r wr (by omega))
      have i1 : (0 : Int) ≤ j := by omega
      have i2 : (j : Int) < m := by omega
      clear x0 x1 x2 hown hheld hL hsn hr
      go_wp2_with fail
      clear d0 d1 d2 c11
      refine CP.out.mono ?_
      rintro e w2 ⟨A2, c2, rfl, o2, b2⟩
      obtain ⟨g2, rfl, hg2, hc2⟩ := own_some8 o2 (by omega)
      have O2 := Lib.hid (And.intro (own_below HO.out.1 b2) (And.intro hc2 (HO.out.2.1.step b2)))
      have hz2 : w.heap.size + 1 ≤ w2.heap.size := by have := O2.out.2.2.top.lt; omega
      clear o2 b2 hc2
      go_wp2_with (at_builtin; refine wpList_append_lies _ rfl _ _ 36 rfl (w.heap.size + 1) 5 iu (.int .u8 0) 1 1 Try.underlying36 HU.out.1 HU.out.2.1 HU.out.2.2.1 HU.out.2.2.2 rfl (by decide) _ L _ rfl O2.out.1 ⟨g2, 0, none⟩ (r.k.size + 18) _ (u8s (Rp.pane r)) rfl (by rw [u8s_len, Rp.pane_len]; omega) O2.out.2.1 (u8s_one _) (by omega) (by unfold maxLen; omega) (by omega) hz2 _ rfl ?_; intro g3 cap3 w3 hown hgrow _ _)
      have S3 := O2.out.2.2.grow O2.out.1 hgrow (Nat.le_succ _) (by intro x hx; rw [List.mem_singleton.1 hx]; exact Nat.lt_succ_self _)
      refine ⟨⟨j + 1, L + (r.k.size + 18), by omega, by go_num, ?_, ?_, S3⟩, by simp [intOf]; omega⟩
      · rw [HN.out, ← List.cons_append, List.length_append, HO.out.2.2, Rp.pane_len]
      · rw [HN.out, ← List.cons_append]
        exact own_snoc hown
    · obtain rfl : j = m := by omega
      rw [List.take_of_length_le (by omega)] at hown hL
      obtain ⟨A1, c1, rfl⟩ := own_slice hown
      have HF := Lib.hid (And.intro hown (And.intro hL hheld))
      clear hown hL hheld
      go_wp2_with fail
      go_ret
      obtain ⟨h1, h2, h3⟩ := HF.out
      subst h2
      exact ⟨A1, c1, rfl, own_lower h1 (Nat.le_succ _), h3.1⟩
end Go.Proofs.Ytbdalpfpkofmlaa
