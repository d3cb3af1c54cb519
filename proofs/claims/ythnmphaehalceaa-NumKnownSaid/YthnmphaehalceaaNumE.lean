/- The document's sum. -/
import Derived.Test.YthnmphaehalceaaNumD
namespace Go.Proofs.Ythnmphaehalceaa
open Go.ChangeShapes Go.WideShapes Go.ChangeAt Go.RowKit

set_option maxRecDepth 100000 in
set_option maxHeartbeats 2000000 in
theorem refSum_any (n c B : Nat) (A : Option Addr) (l : List Int) (w : World) (h : Ints w B A n l) (hB : B ≤ w.heap.size) (hn : n ≤ 1000000) :
    Calls Try.prog 20 #[.slice A n c] w (TwoEB (fitN l.sum) (sumE l.sum) w) := by
  have hr : ∀ k, k ≤ n → Room (tot l k) := fun k hk => by
    have := tot_room h.2.1 k (by rw [h.1]; exact hk)
    unfold Room
    omega
  have e0 : wcs (tot l 0) = #[.int .i64 0, .int .i64 0, .int .i64 0, .int .i64 0] := rfl
  have h0 : Blk (w.alloc (.cells #[.int .i64 0, .int .i64 0, .int .i64 0, .int .i64 0] 40)) w.heap.size 40 (wcs (tot l 0)) := by rw [e0]; exact Blk.new _ _ _
  have b0 : Below w.heap.size w (w.alloc (.cells #[.int .i64 0, .int .i64 0, .int .i64 0, .int .i64 0] 40)) := (Below.refl _ _).alloc (Nat.le_refl _) _
  have H0 := Lib.hid (And.intro h0 b0)
  have HT := Lib.hid (show tot l n = l.sum by rw [← tot_all, h.1])
  clear h0 b0 e0
  rcases Nat.eq_zero_or_pos n with hz | hz
  case' inl =>
    subst hz
    go_enter Try.func20, Try.ntmps20
    go_wp2_with fail
    go_loopw [5] (fun i wr => i = .int .i64 0 ∧ Blk wr w.heap.size 40 (wcs (tot l 0)) ∧ Below w.heap.size w wr) (fun _ _ => 0)
    case atStart => exact ⟨rfl, H0.out⟩
    case' round =>
      obtain ⟨rfl, hs, hb⟩ := hrel
      have hrn := hr 0 (Nat.le_refl _)
  case' inr =>
    obtain ⟨b, off, rfl, hbB, hc⟩ := h.2.2 hz
    have hat := h.at_
    have HR := Lib.hid hat
    have HC := Lib.hid hc
    have HL := Lib.hid h.1
    have HRM := Lib.hid hr
    clear hc hat h hr
    go_enter Try.func20, Try.ntmps20
    go_wp2_with fail
    go_loopw [5] (fun i wr => ∃ k : Nat, k ≤ n ∧ i = .int .i64 (k : Int) ∧ Blk wr w.heap.size 40 (wcs (tot l k)) ∧ Below w.heap.size w wr) (fun i _ => n - (intOf i).toNat)
    case atStart => exact ⟨0, by omega, rfl, H0.out⟩
    case' round =>
      obtain ⟨k, hk, rfl, hs, hb⟩ := hrel
      rcases Nat.lt_or_ge k n with hlt | hge
      case inl =>
        obtain ⟨z, hzz⟩ : ∃ z, z = l.getD k 0 := ⟨_, rfl⟩
        have hcl : ∀ {v : World}, Below w.heap.size w v → v.cell? ⟨b, off + k, none⟩ = some (.int .i64 (z)) := fun hv => (hv.cell (p := ⟨b, off + k, none⟩) (by show b < w.heap.size; omega)).trans (by rw [hzz]; exact HC.out k hlt)
        have hr := HR.out k
        rw [← hzz] at hr
        have rk := HRM.out k hk
        have rn : Room (z) := room64 hr
        have et := tot_step (l := l) (k := k) (by rw [HL.out]; exact hlt)
        rw [← hzz] at et
        have ET := Lib.hid et
        clear et hzz
        have x0 : wr.cell? ⟨b, off + k, none⟩ = some (.int .i64 (z)) ∧ wr.cell? ⟨w.heap.size, 0, none⟩ = some (.int .i64 (pA (tot l k))) ∧ wr.cell? ⟨w.heap.size, 1, none⟩ = some (.int .i64 (pB (tot l k))) ∧ wr.cell? ⟨w.heap.size, 2, none⟩ = some (.int .i64 (pC (tot l k))) ∧ wr.cell? ⟨w.heap.size, 3, none⟩ = some (.int .i64 (pD (tot l k))) := ⟨hcl hb, cells4 hs⟩
        have HCL := Lib.hid (fun (v : World) (hv : Below w.heap.size w v) (hs : Blk v w.heap.size 40 (wcs (tot l k))) => And.intro (hcl hv) (cells4 hs))
        have HO := Lib.hid (of_any (z) wr.drew hr)
        have HP := Lib.hid (fun v => plus_any (tot l k) (z) v rk rn)
        have HS := Lib.hid (And.intro (show Blk wr.drew w.heap.size 40 (wcs (tot l k)) from hs) hb.drew)
        clear hs hb hcl
        go_wp2_with fail
        have x0' : wr.drew.cell? ⟨b, off + k, none⟩ = some (.int .i64 z) ∧ wr.drew.cell? ⟨w.heap.size, 0, none⟩ = some (.int .i64 (pA (tot l k))) ∧ wr.drew.cell? ⟨w.heap.size, 1, none⟩ = some (.int .i64 (pB (tot l k))) ∧ wr.drew.cell? ⟨w.heap.size, 2, none⟩ = some (.int .i64 (pC (tot l k))) ∧ wr.drew.cell? ⟨w.heap.size, 3, none⟩ = some (.int .i64 (pD (tot l k))) := x0
        go_region_with (first
          | (go_at_call 30; (with_reducible refine HO.out.mono ?_); rintro e w1 ⟨rfl, b1⟩; have s1 := HS.out.1.below b1 HS.out.1.lt; have d1 := below_next HS.out.2 b1; have x1 := HCL.out _ d1 s1; have H1 := Lib.hid (And.intro s1 d1); clear s1 d1 b1)
          | (go_at_call 29; (with_reducible refine (HP.out _).mono ?_); rintro e w2 ⟨rfl, b2⟩; have s2 := H1.out.1.below b2 H1.out.1.lt; have d2 := below_next H1.out.2 b2; have x2 := HCL.out _ d2 s2; have f2 := froz4 s2; have H2 := Lib.hid (And.intro s2 d2); clear s2 d2 b2))
        all_goals
          obtain ⟨V2, hV2⟩ : ∃ V, (((w2.setCell ⟨w.heap.size, 0, none⟩ (.int .i64 (pA (tot l k + z)))).setCell ⟨w.heap.size, 1, none⟩ (.int .i64 (pB (tot l k + z)))).setCell ⟨w.heap.size, 2, none⟩ (.int .i64 (pC (tot l k + z)))).setCell ⟨w.heap.size, 3, none⟩ (.int .i64 (pD (tot l k + z))) = V := ⟨_, rfl⟩
          have s3 : Blk V2 w.heap.size 40 (wcs (tot l k + z)) := by rw [← hV2]; exact H2.out.1.four _ _ _ _
          have d3 : Below w.heap.size w V2 := by rw [← hV2]; exact below_four H2.out.2 (Nat.le_refl _) _ _ _ _
          rw [← ET.out] at s3
          have H3 := Lib.hid (And.intro s3 d3)
          clear s3 d3 x1 x2 x0 x0' f2
          go_wp2_with fail
          go_roundw
          case rel => exact ⟨k + 1, by omega, by go_num, H3.out⟩
          case measure => simp [intOf]; omega
      case' inr =>
        obtain rfl : k = n := by omega
        have hrn := HRM.out k (Nat.le_refl _)
  all_goals
    rw [HT.out] at hs hrn
    have c1 := cells4 hs
    have HB := Lib.hid hb
    have hf := fun v => fit_any _ v hrn
    clear hb hs
    rcases hft : fitB l.sum with _ | _
    · have T : Hid (fitN l.sum = 0 ∧ sumE l.sum = 30) := Lib.hid ⟨(fit_no (fun h => by rw [(fit_yes h).1] at hft; cases hft)).2, by unfold sumE; rw [hft, if_neg (by decide)]⟩
      rw [hft] at hf
      clear hft
      go_wp2_with fail
      refine (hf _).mono ?_
      rintro e w4 ⟨rfl, b4⟩
      have B4 := Lib.hid b4
      clear b4
      go_wp2_with fail
      go_ret2
      unfold TwoEB
      rw [T.out.1, T.out.2]
      exact ⟨rfl, below_next HB.out B4.out⟩
    · have T : Hid (sumE l.sum = 0) := Lib.hid (by unfold sumE; rw [hft, if_pos rfl])
      rw [hft] at hf
      clear hft
      go_wp2_with fail
      refine (hf _).mono ?_
      rintro e w4 ⟨rfl, b4⟩
      have B4 := Lib.hid b4
      clear b4
      go_wp2_with fail
      go_ret2
      unfold TwoEB
      rw [T.out]
      exact ⟨rfl, below_next HB.out B4.out⟩
end Go.Proofs.Ythnmphaehalceaa
