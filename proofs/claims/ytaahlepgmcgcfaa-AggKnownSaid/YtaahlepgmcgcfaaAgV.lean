/- Layer 5, the program: rows copied, and sorted. -/
import Derived.Test.YtaahlepgmcgcfaaAgU
namespace Go.Proofs.Ytaahlepgmcgcfaa
open Go.ChangeShapes Go.WideShapes Go.ChangeAt Go.RowKit

/-- A slice at A, of n rows, below block B, reads as l. -/
def RowsIn (w : World) (B : Nat) (A : Option Addr) (n : Nat) (l : List Rw) : Prop :=
  l.length = n ∧ (0 < n → ∃ b off, A = some ⟨b, off, none⟩ ∧ b < B ∧ ∀ i, i < n → ∀ j, j < 7 → w.cell? ⟨b, off + i * 7 + j, none⟩ = (rowL (l.getD i default))[j]?)
section
variable {w w' : World} {B B' n : Nat} {A : Option Addr} {l : List Rw}
theorem RowsIn.keep (h : RowsIn w B A n l) (hk : ∀ b o, b < B → w'.cell? ⟨b, o, none⟩ = w.cell? ⟨b, o, none⟩) : RowsIn w' B A n l :=
  ⟨h.1, fun hn => by
    obtain ⟨b, off, e, hb, hc⟩ := h.2 hn
    exact ⟨b, off, e, hb, fun i hi j hj => (hk b _ hb).trans (hc i hi j hj)⟩⟩
theorem RowsIn.more (h : RowsIn w B A n l) (hB : B ≤ B') : RowsIn w B' A n l :=
  ⟨h.1, fun hn => by
    obtain ⟨b, off, e, hb, hc⟩ := h.2 hn
    exact ⟨b, off, e, by omega, hc⟩⟩
theorem RowsIn.below (h : RowsIn w B A n l) (hb : Below B' w w') (hB : B ≤ B') : RowsIn w' B A n l := h.keep fun b o hp => hb.cell (p := ⟨b, o, none⟩) (by show b < B'; omega)
theorem RowsIn.alloc (h : RowsIn w B A n l) (hB : B ≤ w.heap.size) (o : Obj) : RowsIn (w.alloc o) B A n l := h.keep fun b f hp => World.cell?_alloc_lt w o ⟨b, f, none⟩ (by show b < w.heap.size; omega)
theorem RowsIn.nil : RowsIn w B A 0 [] := ⟨rfl, fun h => absurd h (by omega)⟩
theorem RowsIn.none_len (h : RowsIn w B none n l) : n = 0 ∧ l = [] := by
  have h0 : n = 0 := by
    rcases Nat.eq_zero_or_pos n with h1 | h1
    · exact h1
    · obtain ⟨b, off, e, _⟩ := h.2 h1
      cases e
  exact ⟨h0, List.eq_nil_of_length_eq_zero (by rw [h.1, h0])⟩
theorem RowsIn.cells {ad : Addr} (h : RowsIn w B (some ad) n l) : ∀ k u, (rcells l)[k]? = some u → w.cell? (ad.add k) = some u := by
  intro k u hu
  have hk : k < (rcells l).length := by
    rcases Nat.lt_or_ge k (rcells l).length with h1 | h1
    · exact h1
    · rw [List.getElem?_eq_none h1] at hu; cases hu
  rw [rcells_len, h.1] at hk
  obtain ⟨b, off, e, _, hc⟩ := h.2 (by omega)
  injection e with e
  subst e
  rw [add_at]
  have hkd : k / 7 < n := by omega
  have hkm : k % 7 < 7 := Nat.mod_lt _ (by omega)
  have e2 : k / 7 * 7 + k % 7 = k := by omega
  have := hc (k / 7) hkd (k % 7) hkm
  rw [show off + k / 7 * 7 + k % 7 = off + k by omega, ← rcells_at l _ _ (by rw [h.1]; exact hkd) hkm, e2, hu] at this
  exact this
theorem RowsIn.of_blk {g : Nat} (h : RowBlk w g l) (hl : l.length = n) (hg : g < B) : RowsIn w B (some ⟨g, 0, none⟩) n l := by
  obtain ⟨cs, h1, h2⟩ := h
  refine ⟨hl, fun _ => ⟨g, 0, rfl, hg, fun i hi j hj => ?_⟩⟩
  rw [Nat.zero_add, h1.cell]
  exact h2 i (by omega) j hj
end
theorem rowL_one (r : Rw) : ∀ u ∈ rowL r, u.oneCell' = true := by
  intro u hu
  simp only [rowL, List.mem_cons, List.not_mem_nil, or_false] at hu
  rcases hu with rfl | rfl | rfl | rfl | rfl | rfl | rfl <;> rfl
theorem rcells_one (l : List Rw) : ∀ u ∈ rcells l, u.oneCell' = true := by
  intro u hu
  obtain ⟨r, _, hr⟩ := List.mem_flatMap.1 hu
  exact rowL_one r u hr
theorem RowBlk.of_own {w : World} {base n : Nat} {v : Value} {l : List Rw} (h : w.ownsRow base 35 7 v n (rcells l)) (h0 : 0 < n) : ∃ g cap, v = .slice (some ⟨g, 0, none⟩) n cap ∧ n ≤ cap ∧ base ≤ g ∧ RowBlk w g l := by
  rcases h.2 with ⟨_, h1⟩ | ⟨g, cap, cur, rfl, hb, hh, hnc, _, hcs, htake⟩
  · omega
  · refine ⟨g, cap, rfl, hnc, hb, cur, hh, fun i hi j hj => ?_⟩
    rw [← rcells_at l i j hi hj, ← htake, List.getElem?_take_of_lt, Array.getElem?_toList]
    have := h.1
    rw [rcells_len] at this
    omega
theorem Try.info35 : (Try.prog.info? 35).map (fun i => (i.zero, i.size, i.bytes)) = some (some (.agg #[.string ⟨#[]⟩, .int .i64 0, .int .i64 0, .int .i64 0, .int .i64 0, .int .i64 0, .int .i64 0]), 7, 64) := by kernel_rfl
/-- Rows in new memory. -/
def NewRows (w : World) (n : Nat) (l : List Rw) (e : Ending) (w' : World) : Prop := ∃ A c, e = .returned (.slice A n c) ∧ n ≤ c ∧ (0 < n → ∃ g, A = some ⟨g, 0, none⟩ ∧ w.heap.size ≤ g ∧ RowBlk w' g l) ∧ Below w.heap.size w w'
theorem run_eql_none {P : Program} (w : World) (t e : TypeId) (a : Option Addr) (l c : Nat) (h : P.underlying t = some (.slice e)) : (binOp .eql t (.slice a l c) (.slice none 0 0)).run P w = .ok (.bool a.isNone) w := by
  have h0 : ∀ d, (Op.equalIn (d + 1) t (.slice a l c) (.slice none 0 0)).run P w = .ok a.isNone w := fun d => by
    cases a <;> simp [Op.equalIn, run_underlying h]
  have h1 : (Op.equal t (.slice a l c) (.slice none 0 0)).run P w = .ok a.isNone w := h0 9999
  simp [binOp, h1]
set_option maxRecDepth 100000 in
set_option maxHeartbeats 2000000 in
theorem clone_any (n c B : Nat) (A : Option Addr) (l : List Rw) (w : World) (h : RowsIn w B A n l) (hB : B ≤ w.heap.size) (hn : n ≤ 1000) :
    Calls Try.prog 45 #[.slice A n c] w (NewRows w n l) := by
  obtain ⟨i0, hi, hz0, hz1, hz2⟩ := info_parts Try.info35
  cases A with
  | none =>
    obtain ⟨rfl, rfl⟩ := h.none_len
    have hq := fun W : World => run_eql_none (P := Try.prog) W 22 35 none 0 c Try.underlying22
    clear h hi hz0 hz1 hz2
    go_enter Try.func45, Try.ntmps45
    go_wp2_with fail
    go_ret
    exact ⟨none, 0, rfl, Nat.le_refl _, fun h => absurd h (by omega), Below.refl _ _⟩
  | some ad =>
    have HI := Lib.hid (And.intro hi (And.intro hz0 (And.intro hz1 hz2)))
    have hb1 := h.alloc hB (.cells #[] 35)
    have hcells := Lib.hid hb1.cells
    have hlen : (rcells l).length = n * 7 := by rw [rcells_len, h.1]
    have HLEN := Lib.hid hlen
    have hq := fun W : World => run_eql_none (P := Try.prog) W 22 35 (some ad) n c Try.underlying22
    clear h hb1 hlen hi hz0 hz1 hz2
    go_enter Try.func45, Try.ntmps45
    go_wp2_with (at_builtin; refine wpList_append_own _ rfl _ _ 22 rfl w.heap.size 35 i0 (.agg #[.string ⟨#[]⟩, .int .i64 0, .int .i64 0, .int .i64 0, .int .i64 0, .int .i64 0, .int .i64 0]) 7 64 Try.underlying22 HI.out.1 HI.out.2.1 HI.out.2.2.1 HI.out.2.2.2 rfl (by decide) _ 0 [] rfl (World.ownsRow_made w #[] 0 (Nat.le_refl _) (by decide) rfl) ad n c (rcells l) rfl HLEN.out hcells.out (rcells_one l) (by unfold maxLen; omega) (by omega) (by simp) ?_; intro v' w1 hown hgrow _)
    rw [Nat.zero_add, List.nil_append] at hown
    obtain ⟨A', c', rfl⟩ := own_slice hown
    have hbw : Below w.heap.size w w1 := grow_below (Below.refl _ _) hgrow (fun g hg => by injection hg with hg; simp at hg; omega)
    clear hgrow
    have hr : n ≤ c' ∧ (0 < n → ∃ g, A' = some ⟨g, 0, none⟩ ∧ w.heap.size ≤ g ∧ RowBlk w1 g l) := by
      rcases Nat.eq_zero_or_pos n with h0 | h0
      · subst h0; exact ⟨Nat.zero_le _, fun h => absurd h (by omega)⟩
      · obtain ⟨g, cap, e, h1, h2, h3⟩ := RowBlk.of_own hown h0
        injection e with e1 e2 e3
        subst e1 e3
        exact ⟨h1, fun _ => ⟨g, rfl, h2, h3⟩⟩
    have HR := Lib.hid (And.intro hr hbw)
    clear hr hbw hown
    go_ret
    exact ⟨A', c', rfl, HR.out.1.1, HR.out.1.2, HR.out.2⟩
set_option maxRecDepth 100000 in
set_option maxHeartbeats 1000000 in
theorem insert_none (second : Bool) (A : Option Addr) (n c k : Nat) (w : World) (hk : k ≤ 1000) :
    Calls Try.prog 56 #[.slice A n c, .int .i64 (k : Int), .int .i64 (k : Int), srtF second] w fun e w' => e = .returned (.tuple #[]) ∧ w = w' := by
  unfold srtF
  have i1 : ¬ (k : Int) + 1 < k := by omega
  have i2 : (0 : Int) ≤ k := by omega
  go_enter Try.func56, Try.ntmps56
  go_wp2_with fail
  go_loop [8] (fun i => i = .int .i64 ((k : Int) + 1)) (fun _ => 0)
  case atStart => rfl
  case round =>
    subst hrel
    go_wp2_with fail
    go_end0
    exact ⟨rfl, rfl⟩
/-- What sorting leaves: rows in order, or nothing where there are none. -/
def SrtP (w : World) (A : Option Addr) (n : Nat) (l : List Rw) (e : Ending) (w' : World) : Prop := e = .returned (.tuple #[]) ∧ ((n = 0 ∧ w = w') ∨ ∃ g, 0 < n ∧ A = some ⟨g, 0, none⟩ ∧ RowBlk w' g l ∧ w.grownBy w' (some g))
theorem insert_all (second : Bool) (A : Option Addr) (n c : Nat) (l : List Rw) (w : World) (h : 0 < n → ∃ g, A = some ⟨g, 0, none⟩ ∧ RowBlk w g l) (hl : l.length = n) (hn : n ≤ 20) (hc : n ≤ c) :
    Calls Try.prog 56 #[.slice A n c, .int .i64 0, .int .i64 (n : Int), srtF second] w (SrtP w A n (srt (rord second) l n)) := by
  rcases Nat.eq_zero_or_pos n with h0 | h0
  · subst h0
    exact (insert_none second A 0 c 0 w (by omega)).mono fun e w' ⟨he, hw⟩ => ⟨he, .inl ⟨rfl, hw⟩⟩
  · obtain ⟨g, rfl, hg⟩ := h h0
    exact (insert_any second g n c l w hg hl (by omega) hc h0).mono fun e w' ⟨he, hw⟩ => ⟨he, .inr ⟨g, h0, rfl, hw⟩⟩
set_option maxRecDepth 100000 in
set_option maxHeartbeats 4000000 in
theorem stable_any (second : Bool) (A : Option Addr) (n c : Nat) (l : List Rw) (w : World) (h : 0 < n → ∃ g, A = some ⟨g, 0, none⟩ ∧ RowBlk w g l) (hl : l.length = n) (hn : n ≤ 20) (hc : n ≤ c) :
    Calls Try.prog 52 #[.slice A n c, .int .i64 (n : Int), srtF second] w (SrtP w A n (srt (rord second) l n)) := by
  have HINS := Lib.hid (insert_all second A n c l w h hl hn hc)
  clear h hl
  by_cases h20 : n = 20
  · subst h20
    obtain ⟨F, hF⟩ : ∃ F, srtF second = F := ⟨_, rfl⟩
    rw [hF] at HINS ⊢
    have hn0 := fun W => insert_none second A 20 c 20 W (by omega)
    have hc20 : ((20 : Nat) : Int) = 20 := rfl
    rw [hF, hc20] at hn0
    rw [hc20] at HINS ⊢
    have HN := Lib.hid hn0
    clear hF hc20 hn0
    go_enter Try.func52, Try.ntmps52
    go_wp2_with fail
    go_loopw [7, 8] (fun a b wr => (a = .int .i64 0 ∧ b = .int .i64 20 ∧ w = wr) ∨ (a = .int .i64 20 ∧ b = .int .i64 40 ∧ SrtP w A 20 (srt (rord second) l 20) (.returned (.tuple #[])) wr)) (fun _ b _ => 60 - (intOf b).toNat)
    case atStart => exact .inl ⟨rfl, rfl, rfl⟩
    case round =>
      rcases hrel with ⟨rfl, rfl, rfl⟩ | ⟨rfl, rfl, hS⟩
      · go_wp2_with (go_at_call 56; refine HINS.out.mono ?_; rintro e w1 h1; have H1 := Lib.hid h1; obtain rfl := h1.1; clear h1)
        go_roundw
        case rel => exact .inr ⟨rfl, rfl, H1.out⟩
        case measure => decide
      · have HS := Lib.hid hS
        clear hS
        go_wp2_with (go_at_call 56; (with_reducible refine (HN.out _).mono ?_); rintro e w1 ⟨rfl, rfl⟩)
        go_loopw [6] (fun b wr' => b = .int .i64 20 ∧ wr = wr') (fun _ _ => 0)
        case atStart => exact ⟨rfl, rfl⟩
        case round =>
          obtain ⟨rfl, rfl⟩ := hrel
          go_wp2_with fail
          go_end0
          exact HS.out
  · have h1 : n < 20 := by omega
    have h2 : ¬ (20 : Int) ≤ n := by omega
    have h3 : ¬ (20 : Int) < n := by omega
    have h4 : (n : Int) < 20 := by omega
    have h5 : decide ((20 : Int) ≤ n) = false := decide_eq_false h2
    have h6 : decide ((20 : Int) < n) = false := decide_eq_false h3
    obtain ⟨F, hF⟩ : ∃ F, srtF second = F := ⟨_, rfl⟩
    rw [hF] at HINS ⊢
    clear hF h20 hn
    go_enter Try.func52, Try.ntmps52
    go_wp2_with fail
    go_loopw [7, 8] (fun a b wr => a = .int .i64 0 ∧ b = .int .i64 20 ∧ w = wr) (fun _ _ _ => 0)
    case atStart => exact ⟨rfl, rfl, rfl⟩
    case round =>
      obtain ⟨rfl, rfl, rfl⟩ := hrel
      go_wp2_with (go_at_call 56; refine HINS.out.mono ?_; rintro e w1 h1; have H1 := Lib.hid h1; obtain rfl := h1.1; clear h1)
      go_loopw [6] (fun b wr' => b = .int .i64 20 ∧ w1 = wr') (fun _ _ => 0)
      case atStart => exact ⟨rfl, rfl⟩
      case round =>
        obtain ⟨rfl, rfl⟩ := hrel
        go_wp2_with fail
        go_end0
        exact H1.out
set_option maxRecDepth 100000 in
set_option maxHeartbeats 1000000 in
theorem sortStable_any (second : Bool) (A : Option Addr) (n c : Nat) (l : List Rw) (w : World) (h : 0 < n → ∃ g, A = some ⟨g, 0, none⟩ ∧ RowBlk w g l) (hl : l.length = n) (hn : n ≤ 20) (hc : n ≤ c) :
    Calls Try.prog 46 #[.slice A n c, srtF second] w (SrtP w A n (srt (rord second) l n)) := by
  have HINS := Lib.hid (stable_any second A n c l w h hl hn hc)
  obtain ⟨F, hF⟩ : ∃ F, srtF second = F := ⟨_, rfl⟩
  rw [hF] at HINS ⊢
  clear hF h hl
  go_enter Try.func46, Try.ntmps46
  go_wp2_with (go_at_call 52; refine HINS.out.mono ?_; rintro e w1 h1; have H1 := Lib.hid h1; obtain rfl := h1.1; clear h1)
  go_end0
  exact H1.out
set_option maxRecDepth 100000 in
set_option maxHeartbeats 1000000 in
theorem sorted_any (second : Bool) (n c B : Nat) (A : Option Addr) (l : List Rw) (w : World) (h : RowsIn w B A n l) (hB : B ≤ w.heap.size) (hn : n ≤ 20) :
    Calls Try.prog 28 #[.agg #[ordF second], .slice A n c] w (NewRows w n (srt (rord second) l n)) := by
  have hb0 := Blk.new w 60 #[ordF second]
  have hbe : Below w.heap.size w (w.alloc (.cells #[ordF second] 60)) := (Below.refl _ _).alloc (Nat.le_refl _) _
  have hA := h.alloc hB (.cells #[ordF second] 60)
  obtain ⟨F, hF⟩ : ∃ F, ordF second = F := ⟨_, rfl⟩
  have hSF : srtF second = .func (.func 47) #[.agg #[F]] #[] := by unfold srtF; rw [hF]
  have hsort := fun A n c W h hl hn hc => sortStable_any second A n c l W h hl hn hc
  rw [hSF] at hsort
  have HSO := Lib.hid hsort
  rw [hF] at hb0 hbe hA ⊢
  have HL := Lib.hid h.1
  obtain ⟨w0, hw0⟩ : ∃ w0, w.alloc (.cells #[F] 60) = w0 := ⟨_, rfl⟩
  have hz : w0.heap.size = w.heap.size + 1 := by rw [← hw0]; simp
  rw [hw0] at hb0 hbe hA
  have H0 := Lib.hid (And.intro hb0 (And.intro hbe (And.intro hA hz)))
  clear hsort hSF hF hb0 hbe hA h hz
  go_enter Try.func28, Try.ntmps28
  go_wp2_with (first
    | (go_at_call 45; (with_reducible refine (clone_any n c B A l _ H0.out.2.2.1 (by rw [H0.out.2.2.2]; omega) (by omega)).mono ?_); rintro e w1 ⟨A1, c1, rfl, hc1, hr1, b1⟩; have hk := H0.out.1.below b1 (by rw [H0.out.2.2.2]; omega); have hcell := hk.cell 0; have HC1 := Lib.hid (And.intro hc1 (And.intro hr1 b1)); clear hc1 hr1 b1 hk)
    | (go_at_call 46; refine (HSO.out A1 n c1 _ (fun h0 => (HC1.out.2.1 h0).imp fun g hg => ⟨hg.1, hg.2.2⟩) HL.out hn HC1.out.1).mono ?_; rintro e w2 h2; have H2 := Lib.hid h2; obtain rfl := h2.1; clear h2))
  go_ret
  have hb1 : Below w.heap.size w w1 := H0.out.2.1.trans (HC1.out.2.2.mono (by rw [H0.out.2.2.2]; omega))
  rcases H2.out.2 with ⟨h0, rfl⟩ | ⟨g, h0, rfl, hg, hgr⟩
  · exact ⟨A1, c1, rfl, HC1.out.1, fun h => absurd h (by omega), hb1⟩
  · obtain ⟨g', e, hge, _⟩ := HC1.out.2.1 h0
    injection e with e
    injection e with e1 _ _
    subst e1
    have hge' : w.heap.size ≤ g := by rw [H0.out.2.2.2] at hge; omega
    exact ⟨_, c1, rfl, HC1.out.1, fun _ => ⟨g, rfl, hge', hg⟩, hb1.trans ⟨hgr.os, hgr.tape, hgr.output, hgr.size, fun k hk => hgr.block k (by have := hb1.size; omega) (fun e => by injection e with e; omega)⟩⟩
end Go.Proofs.Ytaahlepgmcgcfaa
