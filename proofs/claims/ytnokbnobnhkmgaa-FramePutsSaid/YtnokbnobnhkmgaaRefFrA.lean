/- Layer 7's reference: a body, put into a frame. -/
import Derived.Test.YtnokbnobnhkmgaaFr
import Derived.Deep.DeepCutAuto
namespace Go.Proofs.Ytnokbnobnhkmgaa
open Go.ChangeShapes Go.WideShapes Go.ChangeAt Go.RowKit

def PutB (w : World) (l : List Nat) (r : Int) (e : Ending) (w' : World) : Prop := ∃ (A : Option Addr) (c : Nat), e = .returned (.tuple #[.slice A l.length c, .int .i64 r]) ∧ w'.ownsRow w.heap.size 5 1 (.slice A l.length c) l.length (u8s l) ∧ Below w.heap.size w w'
theorem own_some {w : World} {base n c : Nat} {e : TypeId} {A : Option Addr} {xs : List Value} (h : w.ownsRow base e 1 (.slice A n c) n xs) (h0 : 0 < n) : ∃ g, A = some ⟨g, 0, none⟩ ∧ ∀ j u, xs[j]? = some u → w.cell? ((⟨g, 0, none⟩ : Addr).add j) = some u := by
  obtain ⟨g, cap, hv, hc, hlt⟩ := h.form h0
  injection hv with hv
  subst hv
  exact ⟨g, rfl, h.cells (g := g) rfl⟩
theorem grow_bel {w w1 w2 : World} {row : Option Nat} (h : Below w.heap.size w w1) (hg : w1.grownBy w2 row) (hr : ∀ g, row = some g → w.heap.size ≤ g) : Below w.heap.size w w2 :=
  h.trans ⟨hg.os, hg.tape, hg.output, hg.size, fun k hk => hg.block k (by have := h.size; omega) (fun e => by have := hr k e.symm; omega)⟩
theorem u8w (k : Nat) (h : k < 256) : IntKind.u8.wrap (k : Int) = (k : Int) := by simp [IntKind.wrap, IntKind.bits, IntKind.signed]; omega
set_option maxRecDepth 100000 in
set_option maxHeartbeats 1000000 in
theorem refFour_any (n : Nat) (w : World) (hn : n ≤ 1000000) : Calls Try.prog 32 #[.int .i64 (n : Int)] w (OwnPost w 4 (be4 n)) := by
  obtain ⟨q1, h1⟩ : ∃ q, n / 16777216 = q := ⟨_, rfl⟩
  obtain ⟨d2, g2⟩ : ∃ q, n / 65536 = q := ⟨_, rfl⟩
  obtain ⟨q2, h2⟩ : ∃ q, d2 % 256 = q := ⟨_, rfl⟩
  obtain ⟨d3, g3⟩ : ∃ q, n / 256 = q := ⟨_, rfl⟩
  obtain ⟨q3, h3⟩ : ∃ q, d3 % 256 = q := ⟨_, rfl⟩
  obtain ⟨q4, h4⟩ : ∃ q, n % 256 = q := ⟨_, rfl⟩
  have e1 : (n : Int) / 16777216 = (q1 : Int) := by omega
  have e2 : (n : Int) / 65536 = (d2 : Int) := by omega
  have e3 : (d2 : Int) % 256 = (q2 : Int) := by omega
  have e4 : (n : Int) / 256 = (d3 : Int) := by omega
  have e5 : (d3 : Int) % 256 = (q3 : Int) := by omega
  have e6 : (n : Int) % 256 = (q4 : Int) := by omega
  have w1 := u8w q1 (by omega)
  have w2 := u8w q2 (by omega)
  have w3 := u8w q3 (by omega)
  have w4 := u8w q4 (by omega)
  have x1 : IntKind.i64.wrap (q1 : Int) = q1 := IntWalk.i64_in _ (by omega)
  have x2 : IntKind.i64.wrap (d2 : Int) = d2 := IntWalk.i64_in _ (by omega)
  have x3 : IntKind.i64.wrap (d3 : Int) = d3 := IntWalk.i64_in _ (by omega)
  have x0 : (0 : Int) ≤ n := by omega
  have x4 : (0 : Int) ≤ d2 := by omega
  have x5 : (0 : Int) ≤ d3 := by omega
  have hb : be4 n = [q1, q2, q3, q4] := by unfold be4; rw [h1, g2, h2, g3, h3, h4]
  have HO := Lib.hid (own_new4 w 5 w.heap.size w.heap.size q1 q2 q3 q4 rfl (Nat.le_refl _) q1 q2 q3 q4 rfl rfl rfl rfl)
  have HBE := Lib.hid hb
  clear h1 g2 h2 g3 h3 h4 hb
  go_enter Try.func32, Try.ntmps32
  go_wp2_with fail
  go_ret
  rw [HBE.out]
  exact ⟨_, _, rfl, HO.out, (Below.refl _ _).alloc (Nat.le_refl _) _⟩
set_option maxRecDepth 100000 in
set_option maxHeartbeats 2000000 in
theorem refPut7_any (n c B : Nat) (A : Option Addr) (l : List Nat) (w : World) (hb : Bytes w B A n l) (hB : B ≤ w.heap.size) (hn : n ≤ 9223372036854775807) : Calls Try.prog 16 #[.slice A n c] w (PutB w (Fr.bytes l) (Fr.err l)) := by
  have hlen := hb.1
  by_cases h8 : 8192 < n
  · have e1 : Fr.bytes l = [] := by unfold Fr.bytes; rw [if_pos (by omega)]
    have e2 : Fr.err l = 71 := by unfold Fr.err; rw [if_pos (by omega)]
    rw [e1, e2]
    clear hb e1 e2
    go_enter Try.func16, Try.ntmps16
    go_wp2_with fail
    go_ret2
    exact ⟨none, 0, rfl, own_nil _ _ _ _, Below.refl _ _⟩
  · have e1 : Fr.bytes l = Fr.enc l := by unfold Fr.bytes; rw [if_neg (by omega)]
    have e2 : Fr.err l = 0 := by unfold Fr.err; rw [if_neg (by omega)]
    rw [e1, e2]
    obtain ⟨i0, hi, hz0, hz1, hz2⟩ := info_parts Try.info5
    have HI := Lib.hid (And.intro hi (And.intro hz0 (And.intro hz1 hz2)))
    have HB := Lib.hid (And.intro hb hB)
    have HE : Hid (Fr.enc l = be4 n ++ l ++ be4 (Crc.sum [l]) ∧ (Fr.enc l).length = n + 8) := Lib.hid ⟨by unfold Fr.enc; rw [hlen], by rw [Fr.enc_len, hlen]⟩
    clear e1 e2 hi hz0 hz1 hz2 hb hB
    go_enter Try.func16, Try.ntmps16
    go_wp2_with fail
    refine (refFour_any n w (by omega)).mono ?_
    rintro e w1 ⟨A1, c1, rfl, ho1, b1⟩
    have hz1 := b1.size
    have hby := HB.out.1.below b1 HB.out.2
    have O1 := Lib.hid (And.intro ho1 b1)
    obtain ⟨s, hs⟩ : ∃ s, Crc.sum [l] = s := ⟨_, rfl⟩
    rw [hs] at HE
    have HS := Lib.hid hs
    have key : ∀ (A2 : Option Addr) (c2 : Nat) (w2 : World), w2.ownsRow w.heap.size 5 1 (.slice A2 (4 + n) c2) (4 + n) (u8s (be4 n ++ l)) → Below w.heap.size w w2 → True := fun _ _ _ _ _ => trivial
    clear ho1 b1 hs key
    rcases A with _ | ad
    · obtain ⟨rfl, hl0⟩ := hby.none_len
      have HL0 := Lib.hid hl0
      clear hby hl0
      go_upto_region 5 with (at_builtin; refine wpList_append_own_nil rfl _ _ 24 rfl w.heap.size 5 i0 1 Try.underlying24 HI.out.1 _ 4 c _ rfl O1.out.1 rfl ?_)
      go_wp2_with fail
      refine (refOf_some s 0 c B none l w1 HS.out (HB.out.1.below O1.out.2 HB.out.2) (Nat.le_trans HB.out.2 hz1) (by omega)).mono ?_
      rintro e w3 ⟨A3, c3, rfl, ho3, b3⟩
      obtain ⟨g3, rfl, hc3⟩ := own_some ho3 (by omega)
      have hl3 : (u8s (be4 s)).length = 4 * 1 := rfl
      have O3 := Lib.hid (And.intro (own_below O1.out.1 b3) (below_next O1.out.2 b3))
      have hz3 := O3.out.2.size
      clear ho3 b3
      go_wp2_with (at_builtin; refine wpList_append_own _ rfl _ _ 24 rfl w.heap.size 5 i0 (.int .u8 0) 1 1 Try.underlying24 HI.out.1 HI.out.2.1 HI.out.2.2.1 HI.out.2.2.2 rfl (by decide) _ 4 _ rfl O3.out.1 ⟨g3, 0, none⟩ 4 c3 (u8s (be4 s)) rfl hl3 hc3 (u8s_one _) (by unfold maxLen; omega) (by omega) hz3 ?_; intro v' w4 hown hgrow _)
      have hb4 := grow_bel O3.out.2 hgrow (fun g hg => (O3.out.1.lt g hg).1)
      rw [u8s_append] at hown
      obtain ⟨A4, c4, rfl⟩ := own_slice hown
      go_ret2
      rw [show be4 0 ++ be4 s = Fr.enc l by rw [HE.out.1, HL0.out, List.append_nil]] at hown
      have e8 : (Fr.enc l).length = 4 + 4 := by rw [HE.out.2]
      unfold PutB
      rw [e8]
      exact ⟨A4, c4, rfl, hown, hb4⟩
    · have hcells := hby.cells
      have hl1 : (u8s l).length = n * 1 := by rw [u8s_len]; omega
      clear hby
      go_upto_region 5 with (at_builtin; refine wpList_append_own _ rfl _ _ 24 rfl w.heap.size 5 i0 (.int .u8 0) 1 1 Try.underlying24 HI.out.1 HI.out.2.1 HI.out.2.2.1 HI.out.2.2.2 rfl (by decide) _ 4 _ rfl O1.out.1 ad n c (u8s l) rfl hl1 hcells (u8s_one _) (by unfold maxLen; omega) (by omega) hz1 ?_; intro v' w2 hown hgrow _)
      have hb2 := grow_bel O1.out.2 hgrow (fun g hg => (O1.out.1.lt g hg).1)
      rw [u8s_append] at hown
      obtain ⟨A2, c2, rfl⟩ := own_slice hown
      have O2 := Lib.hid (And.intro hown hb2)
      clear hown hgrow hb2 hcells hl1
      go_wp2_with fail
      refine (refOf_some s n c B (some ad) l w2 HS.out (HB.out.1.below O2.out.2 HB.out.2) (Nat.le_trans HB.out.2 O2.out.2.size) (by omega)).mono ?_
      rintro e w3 ⟨A3, c3, rfl, ho3, b3⟩
      obtain ⟨g3, rfl, hc3⟩ := own_some ho3 (by omega)
      have hl3 : (u8s (be4 s)).length = 4 * 1 := rfl
      have O3 := Lib.hid (And.intro (own_below O2.out.1 b3) (below_next O2.out.2 b3))
      have hz3 := O3.out.2.size
      clear ho3 b3
      go_wp2_with (at_builtin; refine wpList_append_own _ rfl _ _ 24 rfl w.heap.size 5 i0 (.int .u8 0) 1 1 Try.underlying24 HI.out.1 HI.out.2.1 HI.out.2.2.1 HI.out.2.2.2 rfl (by decide) _ (4 + n) _ rfl O3.out.1 ⟨g3, 0, none⟩ 4 c3 (u8s (be4 s)) rfl hl3 hc3 (u8s_one _) (by unfold maxLen; omega) (by omega) hz3 ?_; intro v' w4 hown hgrow _)
      have hb4 := grow_bel O3.out.2 hgrow (fun g hg => (O3.out.1.lt g hg).1)
      rw [u8s_append, ← HE.out.1, show 4 + n + 4 = (Fr.enc l).length by rw [HE.out.2]; omega] at hown
      obtain ⟨A4, c4, rfl⟩ := own_slice hown
      go_ret2
      exact ⟨A4, c4, rfl, hown, hb4⟩
end Go.Proofs.Ytnokbnobnhkmgaa
