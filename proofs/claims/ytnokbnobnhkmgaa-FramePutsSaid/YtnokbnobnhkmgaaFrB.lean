/- Layer 7, the program: what stands at a place. -/
import Derived.Test.YtnokbnobnhkmgaaFrA
import Derived.Test.YtnokbnobnhkmgaaRefFrC
import Derived.Test.YtnokbnobnhkmgaaFrL
import Derived.Deep.DeepCutAuto
namespace Go.Proofs.Ytnokbnobnhkmgaa
open Go.ChangeShapes Go.WideShapes Go.ChangeAt Go.RowKit

theorem be4_num {l : List Nat} (h4 : l.length = 4) (h : ∀ x ∈ l, x < 256) : be4 (Pk.num l) = l := by
  match l, h4 with
  | [a, b, c, d], _ =>
    have h1 := h a (by simp)
    have h2 := h b (by simp)
    have h3 := h c (by simp)
    have h5 := h d (by simp)
    simp only [be4, Pk.num, List.foldl_cons, List.foldl_nil]
    simp
    omega
/-- Is the frame whole? Its last four bytes tell. -/
theorem enc_iff {r body tail : List Nat} {m : Nat} (h256 : ∀ x ∈ r, x < 256) (hm : Pk.num (r.take 4) = m) (hr : m + 8 ≤ r.length) (hb : (r.drop 4).take m = body) (ht : (r.drop (4 + m)).take 4 = tail) :
    r.take (8 + m) = Fr.enc body ↔ Crc.upd 0 body = Pk.num tail := by
  have e : r.take (8 + m) = be4 m ++ body ++ tail := by
    have e1 : be4 m = r.take 4 := by
      rw [← hm]
      exact be4_num (by rw [List.length_take]; omega) (fun x hx => h256 x (List.mem_of_mem_take hx))
    rw [e1, ← hb, ← ht, show 8 + m = 4 + (m + 4) by omega, List.take_add, List.append_assoc]
    congr 1
    rw [List.take_add, List.drop_drop]
  have hbl : body.length = m := by rw [← hb, List.length_take, List.length_drop]; omega
  have htl : tail.length = 4 := by rw [← ht, List.length_take, List.length_drop]; omega
  have ht256 : ∀ x ∈ tail, x < 256 := by rw [← ht]; exact fun x hx => h256 x (List.mem_of_mem_drop (List.mem_of_mem_take hx))
  rw [e]
  unfold Fr.enc
  rw [hbl, ← crc_one]
  constructor
  · intro h
    have := List.append_cancel_left h
    rw [this, Fr.num_be4 _ (Crc.upd_lt 0 body)]
  · intro h
    rw [h, be4_num htl ht256]
theorem cut_bytes {w : World} {B n c : Nat} {A : Option Addr} {b : List Nat} (hb : Bytes w B A n b) (hc : n ≤ c) (l k : Nat) (u v : Int) (hu : u = l) (hv : v = l + k) (h : l + k ≤ n) :
    ∃ A' c', (∀ W, (Instr.sliceAt 24 (.slice A n c) (some (.int .i64 u)) (some (.int .i64 v)) none).run Try.prog W = .ok (.slice A' k c') W) ∧ Bytes w B A' k ((b.drop l).take k) := by
  obtain ⟨i0, hi, hz0, hz1, hz2⟩ := info_parts Try.info5
  have r := cut_uv (P := Try.prog) 24 5 i0 Try.underlying24 hi hz1 A n c l (l + k) u v hu (by omega) (by omega) (by omega)
  have hby := (hb.head (j := l + k) h).cut (i := l) (c := c) (by omega) (by omega)
  rw [show l + k - l = k by omega] at r hby
  rw [List.drop_take, show l + k - l = k by omega] at hby
  exact ⟨_, _, r, hby⟩
def TakeG (w : World) (g : Nat) (r : List Nat × Int × Int) (e : Ending) (w' : World) : Prop := ∃ (A : Option Addr) (c : Nat), e = .returned (.tuple #[.slice A r.1.length c, .int .i64 r.2.1, .int .i64 r.2.2]) ∧ w'.ownsRow w.heap.size 5 1 (.slice A r.1.length c) r.1.length (u8s r.1) ∧ Tab w' g ∧ w.grownBy w' (some g)
set_option maxRecDepth 100000 in
set_option maxHeartbeats 4000000 in
theorem ftake7_any (g n c B : Nat) (A : Option Addr) (b : List Nat) (at_ : Int) (w : World) (hT : Tab w g) (hb : Bytes w B A n b) (hB : B ≤ g) (hn : n ≤ 1000000) (hc : n ≤ c) (hat : -9223372036854775808 ≤ at_ ∧ at_ ≤ 9223372036854775807) : Calls Try.prog 34 #[.pointer (some ⟨g, 0, none⟩), .slice A n c, .int .i64 at_] w (TakeG w g (Fr.tk b at_)) := by
  have hlen := hb.1
  have hg := hT.lt
  have HT := Lib.hid hT
  clear hT
  by_cases h0 : at_ < 0
  · rw [Fr.tk_more (.inl h0)]
    clear hb
    go_enter Try.func34, Try.ntmps34
    go_wp2_with fail
    go_ret3
    exact ⟨none, 0, rfl, own_nil _ _ _ _, HT.out, World.grownBy.refl _ _⟩
  · obtain ⟨a, rfl⟩ := Int.eq_ofNat_of_zero_le (by omega : 0 ≤ at_)
    have x0 : ¬ (a : Int) < 0 := by omega
    have wd : IntKind.i64.wrap ((n : Int) - (a : Int)) = (n : Int) - (a : Int) := IntWalk.i64_in _ (by omega)
    by_cases h4 : n < a + 4
    · rw [Fr.tk_more (.inr (by omega))]
      have x1 : (n : Int) - (a : Int) < 4 := by omega
      clear hb
      go_enter Try.func34, Try.ntmps34
      go_wp2_with fail
      go_ret3
      exact ⟨none, 0, rfl, own_nil _ _ _ _, HT.out, World.grownBy.refl _ _⟩
    · have x1 : ¬ (n : Int) - (a : Int) < 4 := by omega
      have w4 : IntKind.i64.wrap ((a : Int) + 4) = (a : Int) + 4 := IntWalk.i64_in _ (by omega)
      obtain ⟨A1, c1, r1, y1⟩ := cut_bytes hb hc a 4 (a : Int) ((a : Int) + 4) rfl rfl (by omega)
      have h256 : ∀ x ∈ b.drop a, x < 256 := fun x hx => hb.2.1 x (List.mem_of_mem_drop hx)
      have hdl : (b.drop a).length = n - a := by rw [List.length_drop, hlen]
      have hml := Fr.num_4 h256
      obtain ⟨m, hm⟩ : ∃ m, Pk.num ((b.drop a).take 4) = m := ⟨_, rfl⟩
      rw [hm] at hml
      have htk : Fr.tkN b a = if 8192 < m then ([], a, 71) else if n < a + 8 + m then ([], a, 70) else if (b.drop a).take (8 + m) = Fr.enc (((b.drop a).drop 4).take m) then (((b.drop a).drop 4).take m, a + 8 + m, 0) else ([], a + 8 + m, 72) := by
        unfold Fr.tkN
        rw [hm, hlen]
      have HB := Lib.hid (And.intro hb (And.intro hB (And.intro y1 (And.intro h256 (And.intro hdl (And.intro hm htk))))))
      have wm : IntKind.i64.wrap (m : Int) = m := IntWalk.i64_in _ (by omega)
      clear hb hB y1 h256 hdl htk hm
      go_enter Try.func34, Try.ntmps34
      go_wp2_with fail
      refine (fnumber_any c1 B A1 _ w HB.out.2.2.1 (by have := HB.out.2.1; omega)).mono ?_
      rintro e w1 ⟨rfl, b1⟩
      rw [HB.out.2.2.2.2.2.1]
      have HG := Lib.hid (And.intro (HT.out.below b1 hg) (And.intro (grown_of_below b1 (some g)) (HB.out.1.below b1 (by have := HB.out.2.1; omega))))
      clear b1 r1
      by_cases h81 : 8192 < m
      · have z1 : (8192 : Int) < m := by omega
        have e := Fr.tk_at (b := b) (a := a) (by omega) (by rw [HB.out.2.2.2.2.2.2, if_pos h81])
        have HE := Lib.hid e
        clear e
        go_wp2_with fail
        go_ret3
        rw [HE.out]
        exact ⟨none, 0, rfl, own_nil _ _ _ _, HG.out.1, HG.out.2.1⟩
      · have z1 : ¬ (8192 : Int) < m := by omega
        have wd4 : IntKind.i64.wrap ((n : Int) - ((a : Int) + 4)) = (n : Int) - ((a : Int) + 4) := IntWalk.i64_in _ (by omega)
        have wm4 : IntKind.i64.wrap ((m : Int) + 4) = (m : Int) + 4 := IntWalk.i64_in _ (by omega)
        by_cases h82 : n < a + 8 + m
        · have z2 : (n : Int) - ((a : Int) + 4) < (m : Int) + 4 := by omega
          have e := Fr.tk_at (b := b) (a := a) (by omega) (by rw [HB.out.2.2.2.2.2.2, if_neg h81, if_pos h82])
          have HE := Lib.hid e
          clear e
          go_wp2_with fail
          go_ret3
          rw [HE.out]
          exact ⟨none, 0, rfl, own_nil _ _ _ _, HG.out.1, HG.out.2.1⟩
        · have z2 : ¬ (n : Int) - ((a : Int) + 4) < (m : Int) + 4 := by omega
          have we : IntKind.i64.wrap ((a : Int) + 4 + m) = (a : Int) + 4 + m := IntWalk.i64_in _ (by omega)
          have wn : IntKind.i64.wrap ((a : Int) + 4 + m + 4) = (a : Int) + 4 + m + 4 := IntWalk.i64_in _ (by omega)
          obtain ⟨A2, c2, r2, y2⟩ := cut_bytes HG.out.2.2 hc (a + 4) m ((a : Int) + 4) ((a : Int) + 4 + m) (by omega) (by omega) (by omega)
          obtain ⟨A3, c3, r3, y3⟩ := cut_bytes HG.out.2.2 hc (a + 4 + m) 4 ((a : Int) + 4 + m) ((a : Int) + 4 + m + 4) (by omega) (by omega) (by omega)
          obtain ⟨body, hbo⟩ : ∃ l, ((b.drop a).drop 4).take m = l := ⟨_, rfl⟩
          obtain ⟨tail, hta⟩ : ∃ l, ((b.drop a).drop (4 + m)).take 4 = l := ⟨_, rfl⟩
          have hiff := enc_iff HB.out.2.2.2.1 HB.out.2.2.2.2.2.1 (by rw [HB.out.2.2.2.2.1]; omega) hbo hta
          have htk := HB.out.2.2.2.2.2.2
          rw [if_neg h81, if_neg h82, hbo] at htk
          rw [← List.drop_drop, hbo] at y2
          rw [Nat.add_assoc a 4 m, ← List.drop_drop, hta] at y3
          obtain ⟨s, hs⟩ : ∃ s, Crc.upd 0 body = s := ⟨_, rfl⟩
          obtain ⟨q, hq⟩ : ∃ q, Pk.num tail = q := ⟨_, rfl⟩
          rw [hs, hq] at hiff
          have hbl := y2.1
          have HNX : Hid (((a + 8 + m : Nat) : Int) = (a : Int) + 4 + m + 4) := Lib.hid (by omega)
          have hgw1 : g < w1.heap.size := HG.out.1.lt
          have HU : Hid (∀ W, Tab W g → w1.grownBy W (some g) → Calls Try.prog 38 #[.pointer (some ⟨g, 0, none⟩), .int .u32 0, .slice A2 m c2] W fun e W' => e = .returned (.int .u32 (s : Int)) ∧ Tab W' g ∧ w1.grownBy W' (some g)) := Lib.hid fun W hW hgr => by
            have hz := hgr.size
            have := HB.out.2.1
            refine (tableUpdate_any g 0 m c2 B A2 body W hW (by omega) (y2.grown hgr (by omega) (by omega)) (by omega) (by omega) (by omega)).mono ?_
            rintro e W' ⟨rfl, hm, hgr'⟩
            rw [hs]
            exact ⟨rfl, .inr hm, hgr.trans hgr'⟩
          have HN : Hid (∀ W, Tab W g → w1.grownBy W (some g) → Calls Try.prog 40 #[.slice A3 4 c3] W fun e W' => e = .returned (.int .u32 (q : Int)) ∧ Tab W' g ∧ w1.grownBy W' (some g)) := Lib.hid fun W hW hgr => by
            have hz := hgr.size
            have := HB.out.2.1
            refine (fnumber_any c3 B A3 tail W (y3.grown hgr (by omega) (by omega)) (by omega)).mono ?_
            rintro e W' ⟨rfl, b'⟩
            rw [hq]
            exact ⟨rfl, hW.below b' (by omega), hgr.trans (grown_of_below b' (some g))⟩
          have HK := Lib.hid (And.intro htk (And.intro hiff (And.intro y2 hbl)))
          have E0 : Hid (Tab w1.drew g ∧ w1.grownBy w1.drew (some g)) := Lib.hid ⟨HG.out.1.below (Below.refl _ _).drew hgw1, only_drew (World.grownBy.refl _ _)⟩
          clear htk hiff y2 y3 hbo hta hs hq
          by_cases hsq : s = q
          · have z3 : ((s : Int) != (q : Int)) = false := by simp [hsq]
            have z4 : ((s : Int) == (q : Int)) = true := by simp [hsq]
            go_wp2_with fail
            go_region_held3 (fun _ => True) (exact trivial) (first
              | (go_at_call 38; (with_reducible refine (HU.out _ E0.out.1 E0.out.2).mono ?_); rintro e V1 ⟨rfl, bb⟩; have E1 := Lib.hid bb; clear bb)
              | (go_at_call 40; (with_reducible refine (HN.out _ E1.out.1 E1.out.2).mono ?_); rintro e V2 ⟨rfl, bb⟩; have E2 := Lib.hid bb; clear bb))
            have HC := Lib.hid (clone_any m c2 B A2 body V2 (HK.out.2.2.1.grown E2.out.2 (by have := HB.out.2.1; omega) HB.out.2.1) (by have := HB.out.2.1; have := E2.out.2.size; omega) (by omega))
            go_wp2_with fail
            refine HC.out.mono ?_
            rintro e w3 ⟨A4, c4, rfl, ho4, b4⟩
            have e := Fr.tk_at (b := b) (a := a) (by omega) (by rw [HK.out.1, if_pos (HK.out.2.1.2 hsq)])
            have HO := Lib.hid (And.intro (own_lower ho4 (b' := w.heap.size) (by have := HG.out.2.1.size; have := E2.out.2.size; omega)) (And.intro (E2.out.1.below b4 E2.out.1.lt) (And.intro ((HG.out.2.1.trans E2.out.2).trans (grown_of_below b4 (some g))) e)))
            clear ho4 b4 e
            go_wp2_with fail
            go_ret3
            unfold TakeG
            rw [HO.out.2.2.2]
            dsimp only
            rw [HK.out.2.2.2, HNX.out]
            exact ⟨A4, c4, rfl, HO.out.1, HO.out.2.1, HO.out.2.2.1⟩
          · have z3 : ((s : Int) != (q : Int)) = true := by simp; omega
            have z4 : ((s : Int) == (q : Int)) = false := by simp; omega
            go_wp2_with fail
            go_region_held3 (fun _ => True) (exact trivial) (first
              | (go_at_call 38; (with_reducible refine (HU.out _ E0.out.1 E0.out.2).mono ?_); rintro e V1 ⟨rfl, bb⟩; have E1 := Lib.hid bb; clear bb)
              | (go_at_call 40; (with_reducible refine (HN.out _ E1.out.1 E1.out.2).mono ?_); rintro e V2 ⟨rfl, bb⟩; have E2 := Lib.hid bb; clear bb))
            go_wp2_with fail
            have e := Fr.tk_at (b := b) (a := a) (by omega) (by rw [HK.out.1, if_neg (fun h => hsq (HK.out.2.1.1 h))])
            have HE := Lib.hid e
            clear e
            go_ret3
            unfold TakeG
            rw [HE.out]
            dsimp only
            rw [HNX.out]
            exact ⟨none, 0, rfl, own_nil _ _ _ _, E2.out.1, HG.out.2.1.trans E2.out.2⟩
set_option maxRecDepth 100000 in
set_option maxHeartbeats 1000000 in
theorem fTake7_any (n c B : Nat) (A : Option Addr) (b : List Nat) (at_ : Int) (w : World) (hb : Bytes w B A n b) (hB : B ≤ w.heap.size) (hn : n ≤ 1000000) (hc : n ≤ c) (hat : -9223372036854775808 ≤ at_ ∧ at_ ≤ 9223372036854775807) : Calls Try.prog 18 #[.slice A n c, .int .i64 at_] w (TakeP w (Fr.tk b at_)) := by
  obtain ⟨cs, hz, hnew⟩ := blank_ex
  have HT : Hid (Tab (w.alloc (.cells cs 75)) w.heap.size) := Lib.hid (.inl (hnew w))
  have HB := Lib.hid (hb.alloc hB (.cells cs 75))
  clear hb hnew
  go_enter Try.func18, Try.ntmps18
  go_wp2_with fail
  refine (ftake7_any w.heap.size n c B A b at_ _ HT.out HB.out hB hn hc hat).mono ?_
  rintro e w1 ⟨A1, c1, rfl, ho, -, hg⟩
  have HO := Lib.hid (And.intro (own_lower ho (b' := w.heap.size) (by simp)) (below_new hg))
  clear ho hg hz
  go_wp2_with fail
  go_ret3
  exact ⟨A1, c1, rfl, HO.out.1, HO.out.2⟩
end Go.Proofs.Ytnokbnobnhkmgaa
