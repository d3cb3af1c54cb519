/- Layer 8's reference: a reply, packed. -/
import Derived.Test.YtbdalpfpkofmlaaRpM
import Derived.Test.YtbdalpfpkofmlaaRpI
namespace Go.Proofs.Ytbdalpfpkofmlaa
open Go.ChangeShapes Go.WideShapes Go.ChangeAt Go.RowKit

theorem refPart8_any (x : Rp.V) (rows : List Rw) (gone : List Pn) (c B : Nat) (w : World) (hc : Rp.letter c) (ok : x.ok) (hx : x.In w B rows gone) (hB : B ≤ w.heap.size) (hn : x.n ≤ 1000) (hm : x.m ≤ 1000) (hk : ∀ r ∈ rows, r.p.k.size ≤ 60000) (hk' : ∀ r ∈ gone, r.k.size ≤ 60000) :
    Calls Try.prog 31 #[x.val, .int .u8 (c : Int)] w (OwnPost w (x.part rows gone c).length (x.part rows gone c)) := by
  by_cases h1 : c = 114
  · subst h1; exact refPart8_rows x rows gone B w hx hB hn hk
  by_cases h2 : c = 103
  · subst h2; exact refPart8_gone x rows gone B w hx hB hm hk'
  by_cases h3 : c = 99 ∨ c = 108
  · exact refPart8_small x rows gone c w ok h3
  · refine refPart8_num x rows gone c w ok ?_
    unfold Rp.letter at hc
    omega
theorem Rp.part_pos (x : Rp.V) (rows : List Rw) (gone : List Pn) (c : Nat) : 0 < (x.part rows gone c).length := by
  unfold Rp.V.part
  repeat' split
  all_goals simp [Pk.be_len]
theorem take_flat_le {α : Type} (f : α → List Nat) (l : List α) (j : Nat) : ((l.take j).flatMap f).length ≤ (l.flatMap f).length := by
  have h : l.flatMap f = (l.take j).flatMap f ++ (l.drop j).flatMap f := by rw [← List.flatMap_append, List.take_append_drop]
  rw [h, List.length_append]
  omega
set_option maxRecDepth 100000 in
set_option maxHeartbeats 8000000 in
theorem refPut8_any (x : Rp.V) (rows : List Rw) (gone : List Pn) (B : Nat) (w : World) (hx : x.In w B rows gone) (hB : B ≤ w.heap.size) (ok : x.ok) (hn : x.n ≤ 1000) (hm : x.m ≤ 1000) :
    Calls Try.prog 10 #[x.val] w (PutR w (Rp.putB x rows gone) (Rp.putE x rows gone)) := by
  obtain ⟨iu, hu, hu0, hu1, hu2⟩ := info_parts Try.info5
  have HU := Lib.hid (And.intro hu (And.intro hu0 (And.intro hu1 hu2)))
  clear hu hu0 hu1 hu2
  have S0 := (Held.start w).new x.cells 34
  have HS := Lib.hid S0
  have CR : Hid (∀ W, Below w.heap.size w W → Calls Try.prog 15 #[x.val] W fun e w' => e = .returned (.bool (x.right rows gone)) ∧ Below W.heap.size W w') := Lib.hid fun W hW => refRight8_any x B rows gone W (hx.below hW hB) (Nat.le_trans hB hW.size) (by omega) (by omega)
  have RC : Hid (∀ W, Held w W [(w.heap.size, 34, x.cells)] → RepCells W w.heap.size x) := Lib.hid fun W hW => (rep_cells hW.top).1
  cases hr : x.right rows gone
  · have e1 : Rp.putB x rows gone = [] := by unfold Rp.putB; rw [hr]; rfl
    have e2 : Rp.putE x rows gone = 81 := by unfold Rp.putE; rw [hr]; rfl
    rw [e1, e2]
    rw [hr] at CR
    clear e1 e2 S0 hx hB ok hr
    obtain ⟨k, id, code, last, ep, fl, un, le, st, ti, A, n, c, G, m, d⟩ := x
    unfold Rp.V.val at *
    unfold Rp.V.cells at *
    dsimp only at *
    go_enter Try.func10, Try.ntmps10
    go_wp2_with fail
    refine (CR.out _ HS.out.1).mono ?_
    rintro e w1 ⟨rfl, p1⟩
    have H1 := Lib.hid (HS.out.step p1)
    clear p1
    go_wp2_with fail
    go_ret2
    exact ⟨none, 0, rfl, own_nil _ _ _ _, H1.out.1⟩
  · have e1 : Rp.putB x rows gone = x.bytes rows gone := by unfold Rp.putB; rw [hr]; rfl
    have e2 : Rp.putE x rows gone = 0 := by unfold Rp.putE; rw [hr]; rfl
    rw [e1, e2]
    obtain ⟨-, hk1, hk2, -⟩ := Rp.right_keys hr
    have hlen := Rp.bytes_le hr hx.1.1 hx.2.1
    rw [hr] at CR
    have hk0 := ok.1
    have hid0 := ok.2.1
    have hiw : IntKind.u64.wrap (x.id : Int) = x.id := wrap_u64 x.id (by omega)
    have PP : Hid (∀ W c, Rp.letter c → Below w.heap.size w W → Calls Try.prog 31 #[x.val, .int .u8 (c : Int)] W (OwnPost W (x.part rows gone c).length (x.part rows gone c))) := Lib.hid fun W c hc hW =>
      refPart8_any x rows gone c B W hc ok (hx.below hW hB) (Nat.le_trans hB hW.size) hn hm (fun r hr => Nat.le_trans (hk1 r hr) (by omega)) (fun r hr => Nat.le_trans (hk2 r hr) (by omega))
    obtain ⟨P, hP⟩ : ∃ P, Rp.parts x.k = P := ⟨_, rfl⟩
    have hPl := Rp.parts_len x.k
    have hPc := Rp.parts_letter x.k
    have CT : Hid (∀ W, Calls Try.prog 30 #[.int .u8 (x.k : Int)] W fun e w' => e = .returned (.string (textOf P)) ∧ Below W.heap.size W w') := Lib.hid fun W => by
      rw [← hP]
      exact refParts8_any x.k W
    have hbs : x.bytes rows gone = (x.k :: Pk.be 4 x.id) ++ P.flatMap (x.part rows gone) := by
      unfold Rp.V.bytes
      rw [hP]
    rw [hbs] at hlen ⊢
    rw [hP] at hPl hPc
    obtain ⟨z, hz⟩ : ∃ z, P.length = z := ⟨_, rfl⟩
    have hzs : (textOf P).size = z := by rw [← hz]; simp [textOf, ByteArray.size]
    rw [hz] at hPl
    have HPP := Lib.hid (And.intro hz (And.intro hPc hlen))
    obtain ⟨pt, hpt⟩ : ∃ f, x.part rows gone = f := ⟨_, rfl⟩
    have HPO : Hid (∀ c, 0 < (pt c).length) := Lib.hid fun c => by rw [← hpt]; exact Rp.part_pos _ _ _ c
    rw [hpt] at PP HPP ⊢
    clear e1 e2 S0 hx hB ok hr hk1 hk2 hlen hP hPc hbs hz hpt
    obtain ⟨k, id, code, last, ep, fl, un, le, st, ti, A, n, c, G, m, d⟩ := x
    unfold Rp.V.val RepCells at *
    unfold Rp.V.cells at *
    dsimp only at *
    go_enter Try.func10, Try.ntmps10
    go_wp2_with fail
    refine (CR.out _ HS.out.1).mono ?_
    rintro e w1 ⟨rfl, p1⟩
    have S1 := HS.out.step p1
    obtain ⟨c0, -⟩ := RC.out _ S1
    have S2 := S1.step ((Below.refl _ _).alloc (Nat.le_refl _) (.cells #[.int .u8 (k : Int)] 5))
    obtain ⟨q0, q1, -⟩ := RC.out _ S2
    have hz1 : w.heap.size < w1.heap.size := S1.top.lt
    have H2 := Lib.hid (And.intro S2 (own_one8 (w := w1.alloc (.cells #[.int .u8 (k : Int)] 5)) (B := w.heap.size + 1) (x := k) (Blk.new w1 _ _) (by omega) rfl))
    clear p1 S1 S2
    go_wp2_with fail
    clear hiw c0 q1
    refine (refNumber_any _ id 4 _ rfl (by omega) (by unfold Size; omega)).mono ?_
    rintro e w2 ⟨A2, c2, rfl, o2, b2⟩
    obtain ⟨g2, rfl, hg2, hc2⟩ := own_some8 o2 (by omega)
    have O2 := Lib.hid (And.intro (own_below H2.out.2 b2) (And.intro hc2 (H2.out.1.step b2)))
    have hz2 : w.heap.size + 1 ≤ w2.heap.size := by have := b2.size; simp at this; omega
    clear o2 b2 hc2 q0
    go_wp2_with (at_builtin; refine wpList_append_lies _ rfl _ _ 36 rfl (w.heap.size + 1) 5 iu (.int .u8 0) 1 1 Try.underlying36 HU.out.1 HU.out.2.1 HU.out.2.2.1 HU.out.2.2.2 rfl (by decide) _ 1 (u8s [k]) rfl O2.out.1 ⟨g2, 0, none⟩ 4 _ (u8s (Pk.be 4 id)) rfl (by rw [u8s_len, Pk.be_len]) O2.out.2.1 (u8s_one _) (by omega) (by unfold maxLen; omega) (by omega) hz2 _ rfl ?_; intro g3 cap3 w3 hown hgrow _ _; obtain ⟨r0, -⟩ := RC.out _ (O2.out.2.2.grow O2.out.1 hgrow (Nat.le_succ _) (by intro x hx; rw [List.mem_singleton.1 hx]; exact Nat.lt_succ_self _)))
    have S3 := O2.out.2.2.grow O2.out.1 hgrow (Nat.le_succ _) (by intro x hx; rw [List.mem_singleton.1 hx]; exact Nat.lt_succ_self _)
    have H3 := Lib.hid (And.intro S3 (own_snoc hown))
    clear S3 hown hgrow
    refine (CT.out _).mono ?_
    rintro e w4 ⟨rfl, b4⟩
    have H4 := Lib.hid (And.intro (H3.out.1.step b4) (own_below H3.out.2 b4))
    clear b4 r0
    go_wp2_with fail
    go_loopw [4, 6] (fun r i wr => ∃ (j L : Nat), j ≤ z ∧ i = .int .i64 (j : Int) ∧ ((k :: Pk.be 4 id) ++ (P.take j).flatMap pt).length = L ∧ wr.ownsRow (w.heap.size + 1) 5 1 r L (u8s ((k :: Pk.be 4 id) ++ (P.take j).flatMap pt)) ∧ Held w wr [(w.heap.size, 34, #[.int .u8 (k : Int), .int .u32 (id : Int), .int .u16 (code : Int), .bool last, .int .u64 (ep : Int), .int .u64 (fl : Int), .int .u64 (un : Int), .int .u64 (le : Int), .int .u64 (st : Int), .int .u64 (ti : Int), .slice A n c, .slice G m d])]) (fun _ i _ => z - (intOf i).toNat)
    case atStart => exact ⟨0, 5, by omega, rfl, by rw [List.take_zero, List.flatMap_nil, List.append_nil, List.length_cons, Pk.be_len], by rw [List.take_zero, List.flatMap_nil, List.append_nil]; exact H4.out.2, H4.out.1⟩
    case round =>
      obtain ⟨j, L, hj, rfl, hL, hown, hheld⟩ := hrel
      obtain ⟨A4, c4, rfl⟩ := own_slice hown
      have HO := Lib.hid (And.intro hown (And.intro hheld hL))
      by_cases hlt : j < z
      · obtain ⟨ch, hch⟩ : ∃ ch, P.getD j 0 = ch := ⟨_, rfl⟩
        have hlet : Rp.letter ch := by
          rw [← hch, List.getD_eq_getElem?_getD, List.getElem?_eq_getElem (by rw [HPP.out.1]; exact hlt)]
          exact HPP.out.2.1 _ (List.getElem_mem _)
        have hcx : ∀ h : j < (textOf P).size, ((textOf P)[j]'h).toNat = ch := fun h => (textOf_at (fun y hy => letter_lt (HPP.out.2.1 y hy)) h).trans hch
        have hsn : (P.take (j + 1)).flatMap pt = (P.take j).flatMap pt ++ pt ch := by
          have h := flat_snoc8 pt P j (by rw [HPP.out.1]; exact hlt)
          rw [h]
          show _ ++ pt (P.getD j 0) = _
          rw [hch]
        have hle : L + (pt ch).length ≤ 5300 := by
          have h := take_flat_le pt P (j + 1)
          rw [hsn, List.length_append] at h
          have h2 := HPP.out.2.2
          rw [List.length_append] at h2 hL
          omega
        have CP := Lib.hid (PP.out wr.drew ch hlet hheld.1.drew)
        have PC : Hid (∀ W, Below wr.heap.size wr W → RepCells W w.heap.size ⟨k, id, code, last, ep, fl, un, le, st, ti, A, n, c, G, m, d⟩) := Lib.hid fun W hW => RC.out _ (hheld.step hW)
        unfold RepCells at PC
        dsimp only at PC
        have D0 : Hid (Below wr.heap.size wr wr.drew) := Lib.hid (Below.refl _ _).drew
        have O0 : Hid (wr.drew.ownsRow (w.heap.size + 1) 5 1 (.slice A4 L c4) L (u8s ((k :: Pk.be 4 id) ++ (P.take j).flatMap pt)) ∧ Held w wr.drew [(w.heap.size, 34, #[.int .u8 (k : Int), .int .u32 (id : Int), .int .u16 (code : Int), .bool last, .int .u64 (ep : Int), .int .u64 (fl : Int), .int .u64 (un : Int), .int .u64 (le : Int), .int .u64 (st : Int), .int .u64 (ti : Int), .slice A n c, .slice G m d])]) := Lib.hid ⟨hown, hheld.step (Below.refl _ _).drew⟩
        have hi1 : (0 : Int) ≤ j := by omega
        have hi2 : (j : Int) < z := by omega
        have hzr : w.heap.size + 1 ≤ wr.heap.size := hheld.top.lt
        have HN := Lib.hid hsn
        obtain ⟨ln, hln⟩ : ∃ ln, (pt ch).length = ln := ⟨_, rfl⟩
        rw [hln] at CP hle
        have hlp : 0 < ln := by rw [← hln]; exact HPO.out ch
        have HLN := Lib.hid hln
        clear hown hheld hL hsn hch hlet hln
        go_wp2_with fail
        go_region_held3 (fun W => W.cell? ⟨w.heap.size, 0, none⟩ = some (.int .u8 (k : Int)) ∧ W.cell? ⟨w.heap.size, 1, none⟩ = some (.int .u32 (id : Int)) ∧ W.cell? ⟨w.heap.size, 2, none⟩ = some (.int .u16 (code : Int)) ∧ W.cell? ⟨w.heap.size, 3, none⟩ = some (.bool last) ∧ W.cell? ⟨w.heap.size, 4, none⟩ = some (.int .u64 (ep : Int)) ∧ W.cell? ⟨w.heap.size, 5, none⟩ = some (.int .u64 (fl : Int)) ∧ W.cell? ⟨w.heap.size, 6, none⟩ = some (.int .u64 (un : Int)) ∧ W.cell? ⟨w.heap.size, 7, none⟩ = some (.int .u64 (le : Int)) ∧ W.cell? ⟨w.heap.size, 8, none⟩ = some (.int .u64 (st : Int)) ∧ W.cell? ⟨w.heap.size, 9, none⟩ = some (.int .u64 (ti : Int)) ∧ W.cell? ⟨w.heap.size, 10, none⟩ = some (.slice A n c) ∧ W.cell? ⟨w.heap.size, 11, none⟩ = some (.slice G m d)) (first | with_reducible exact PC.out _ D0.out | with_reducible exact PC.out _ D1.out | exact KC9.out) (first
          | (go_at_call 31; (with_reducible refine CP.out.mono ?_); rintro e w5 ⟨A5, c5, rfl, o5, b5⟩; obtain ⟨g5, rfl, hg5, hc5⟩ := own_some8 o5 hlp; have D1 := Lib.hid (below_next D0.out b5); have HD := Lib.hid (And.intro (own_below O0.out.1 b5) (And.intro hc5 (And.intro (O0.out.2.step b5) (show w.heap.size + 1 ≤ w5.heap.size by have := D1.out.size; omega)))); clear o5 b5 hc5)
          | (refine step_append_here rfl (.tmp 28) (.tmp 33) 36 rfl (w.heap.size + 1) 5 iu (.int .u8 0) 1 1 Try.underlying36 HU.out.1 HU.out.2.1 HU.out.2.2.1 HU.out.2.2.2 rfl (by decide) (.slice A4 L c4) L (u8s ((k :: Pk.be 4 id) ++ (P.take j).flatMap pt)) rfl HD.out.1 ⟨g5, 0, none⟩ ln c5 (u8s (pt ch)) rfl (by rw [u8s_len, HLN.out]; omega) HD.out.2.1 (u8s_one _) hlp (by unfold maxLen; omega) (by omega) HD.out.2.2.2 _ rfl ?_; intro g9 cap9 w9 hown9 hg9 _ _; have S9 := Lib.hid (HD.out.2.2.1.grow HD.out.1 hg9 (Nat.le_succ _) (by intro x hx; rw [List.mem_singleton.1 hx]; exact Nat.lt_succ_self _)); have KC9 := Lib.hid (RC.out _ S9.out)))
        go_wp2_with fail
        refine ⟨⟨j + 1, L + ln, by omega, by go_num, ?_, ?_, S9.out⟩, by simp [intOf]; omega⟩
        · rw [HN.out, ← List.append_assoc, List.length_append, HO.out.2.2, HLN.out]
        · rw [HN.out, ← List.append_assoc]
          exact own_snoc hown9
      · obtain rfl : j = z := by omega
        rw [List.take_of_length_le (by rw [HPP.out.1]; exact Nat.le_refl _)] at hown hL
        have HF := Lib.hid (And.intro hown (And.intro hL hheld))
        clear hown hL hheld
        go_wp2_with fail
        go_ret2
        obtain ⟨h1, h2, h3⟩ := HF.out
        subst h2
        exact ⟨A4, c4, rfl, own_lower h1 (Nat.le_succ _), h3.1⟩
end Go.Proofs.Ytbdalpfpkofmlaa
