/- Made by tools/gen/cn.py. -/
/- Layer 15: ChainKnown. -/
import Derived.Test.YteegnehfagkjcaaLaw15T
import Derived.Test.YteegnehfagkjcaaLaw15K
import Derived.Test.YteegnehfagkjcaaLaw15N
import Derived.Test.YteegnehfagkjcaaLaw15P
namespace Go.Proofs.Yteegnehfagkjcaa
open Go.ChangeShapes Go.WideShapes Go.ChangeAt Go.RowKit

theorem Try.info58 : (Try.prog.info? 58).map (fun i => (i.zero, i.size, i.bytes)) = some (some (.agg #[.int .u8 0, .int .u64 0, .bool false, .int .i64 0, .int .i64 0, .int .i64 0, .int .i64 0, .int .u64 0]), 8, 64) := by kernel_rfl
theorem acL_append (a b : List Cn.Ac) : acL (a ++ b) = acL a ++ acL b := by simp [acL]
theorem acL_one (l : List Cn.Ac) : ∀ u ∈ acL l, u.oneCell' = true := by
  intro u hu
  obtain ⟨v, _, h⟩ := List.mem_flatMap.1 hu
  simp only [acC, List.mem_cons, List.not_mem_nil, or_false] at h
  rcases h with rfl | rfl | rfl | rfl | rfl | rfl | rfl | rfl <;> rfl
theorem act_new (w : World) (T : TypeId) (l : List Cn.Ac) (g : Nat) (hg : g = w.heap.size) : ∀ j u, (acL l)[j]? = some u → (w.alloc (.cells (acL l).toArray T)).cell? ((⟨g, 0, none⟩ : Addr).add j) = some u := by
  intro j u hj
  subst hg
  rw [add_at, Nat.zero_add, (Blk.new w T _).cell]
  simpa using hj
/-- The two rows that grow, in the world X. -/
def Inn (w X : World) (j m : Nat) (A : Option Addr) (c : Nat) (L : List Cn.Ver) (B : Option Addr) (d : Nat) (M : List Cn.Ac) : Prop :=
  OwF X (fun b => w.heap.size ≤ b) 35 6 A L.length c (vrL L) ∧ OwF X (fun b => w.heap.size ≤ b) 58 8 B M.length d (acL M) ∧ (∀ v ∈ L, v.e < 18446744073709551616) ∧ (∀ a ∈ M, a.v.e < 18446744073709551616 ∧ a.k < 256) ∧ L.length ≤ j ∧ M.length = m ∧ Below w.heap.size w X
section
variable {w X Y : World} {j m : Nat} {A : Option Addr} {c : Nat} {L : List Cn.Ver} {B : Option Addr} {d : Nat} {M : List Cn.Ac}
theorem Inn.below (h : Inn w X j m A c L B d M) (hb : Below X.heap.size X Y) : Inn w Y j m A c L B d M := by
  obtain ⟨h1, h2, h3, h4, h5, h6, h7⟩ := h
  exact ⟨h1.below hb, h2.below hb, h3, h4, h5, h6, below_next h7 hb⟩
theorem OwF.here {F : Nat → Prop} {E : TypeId} {s n c : Nat} {xs : List Value} (h : OwF w F E s A n c xs) : OwF w (fun b => F b ∧ ∃ o p, A = some ⟨b, o, p⟩) E s A n c xs := by
  rcases h with h | ⟨b, o, cur, e, hF, r⟩
  · exact .inl h
  · exact .inr ⟨b, o, cur, e, ⟨hF, o, none, e⟩, r⟩
/-- The row of another type, behind an append to this one. -/
theorem OwF.other {F G : Nat → Prop} {E E' : TypeId} {s s' n n' c c' : Nat} {xs xs' : List Value} (h : OwF X F E s A n c xs) (k : OwF X G E' s' B n' c' xs') (hne : E ≠ E') (ht : Turns (fun b => F b ∧ ∃ o p, A = some ⟨b, o, p⟩) X Y) : OwF Y G E' s' B n' c' xs' := by
  rcases k with k | ⟨g, o, cur, e, hG, hb, r⟩
  · exact .inl k
  · exact .inr ⟨g, o, cur, e, hG, ht.blk hb (fun e => h.not_blk hb hne e.2), r⟩
theorem Inn.ver {X6 X7 : World} {A7 : Option Addr} {c7 : Nat} {v : Cn.Ver} (h : Inn w X j m A c L B d M) (hb : Below X.heap.size X X6) (hv : v.e < 18446744073709551616) (ho : OwF X7 (fun b => (w.heap.size ≤ b ∧ ∃ o p, A = some ⟨b, o, p⟩) ∨ X6.heap.size ≤ b) 35 6 A7 (L.length + 1) c7 (vrL L ++ verC v)) (ht : Turns (fun b => w.heap.size ≤ b ∧ ∃ o p, A = some ⟨b, o, p⟩) X6 X7) : Inn w X7 (j + 1) m A7 c7 (L ++ [v]) B d M := by
  obtain ⟨h1, h2, h3, h4, h5, h6, h7⟩ := h.below hb
  refine ⟨?_, h1.other h2 (by decide) ht, fun u hu => ?_, h4, by rw [List.length_append]; simp; omega, h6, h7.trans (ht.below h7.size (fun b hb => hb.1))⟩
  · rw [List.length_append, List.length_singleton, show vrL (L ++ [v]) = vrL L ++ verC v by simp [vrL]]
    exact ho.mono fun b _ hb => by
      rcases hb with hb | hb
      · exact hb.1
      · exact Nat.le_trans h7.size hb
  · rcases List.mem_append.1 hu with hu | hu
    · exact h3 u hu
    · rw [List.mem_singleton.1 hu]
      exact hv
theorem Inn.acts {X6 X7 : World} {B7 : Option Addr} {d7 : Nat} {a1 a2 : Cn.Ac} (h : Inn w X j m A c L B d M) (hb : Below X.heap.size X X6) (hv : a1.v.e < 18446744073709551616 ∧ a1.k < 256) (hv2 : a2.v.e < 18446744073709551616 ∧ a2.k < 256) (ho : OwF X7 (fun b => (w.heap.size ≤ b ∧ ∃ o p, B = some ⟨b, o, p⟩) ∨ X6.heap.size ≤ b) 58 8 B7 (M.length + 2) d7 (acL M ++ acL [a1, a2])) (ht : Turns (fun b => w.heap.size ≤ b ∧ ∃ o p, B = some ⟨b, o, p⟩) X6 X7) : Inn w X7 j (m + 2) A c L B7 d7 (M ++ [a1, a2]) := by
  obtain ⟨h1, h2, h3, h4, h5, h6, h7⟩ := h.below hb
  refine ⟨h2.other h1 (by decide) ht, ?_, h3, fun u hu => ?_, h5, by rw [List.length_append]; simp; omega, h7.trans (ht.below h7.size (fun b hb => hb.1))⟩
  · rw [List.length_append, show [a1, a2].length = 2 from rfl, acL_append]
    exact ho.mono fun b _ hb => by
      rcases hb with hb | hb
      · exact hb.1
      · exact Nat.le_trans h7.size hb
  · rcases List.mem_append.1 hu with hu | hu
    · exact h4 u hu
    · simp at hu
      rcases hu with rfl | rfl
      · exact hv
      · exact hv2
end
/-- The odd versions. -/
def oddK : List Cn.Ver := [⟨0, false, ⟨1, 1, 1, 1⟩⟩, ⟨1, false, ⟨0, 0, 0, 0⟩⟩, ⟨1, true, ⟨1, 0, 0, 0⟩⟩, ⟨3, false, ⟨1, 1, 1, 1⟩⟩, ⟨3, false, ⟨1, 2, 2, 2⟩⟩, ⟨2, true, ⟨0, 0, 0, 0⟩⟩, ⟨5, false, ⟨2, 0, 3, 1⟩⟩, ⟨18446744073709551615, false, ⟨1, 4, 4, 4⟩⟩]
theorem odd_lt : ∀ v ∈ oddK, v.e < 18446744073709551616 := by decide
theorem run_cut_lhs {P : Program} (t e : TypeId) (i : TypeInfo) (ht : P.underlying t = some (.slice e)) (hi : P.info? e = some i) (s : Nat) (hz : i.size = s) (a : Option Addr) (len cap : Nat) (l h : Nat) (u v : Int) (hu : u = l) (hv : v = h) (h1 : l ≤ h) (h2 : h ≤ cap) (W : World) : (Instr.sliceAt t (.slice a len cap) (some (.int .i64 u)) (some (.int .i64 v)) none).run P W = .ok (.slice (if cap = l then a else a.map (·.add (l * s))) (h - l) (cap - l)) W := by
  subst hu hv
  have hb := run_sliceBound (P := P) (w := W) .i64 (h : Int) cap .sliceAcap (by omega) (by omega)
  have hl := run_sliceBound (P := P) (w := W) .i64 (l : Int) h .sliceB (by omega) (by omega)
  simp [Instr.sliceAt, Instr.slice, run_underlying ht, Instr.sliceBounds, hb, hl, sizeOf, typeInfo, hi, hz]
theorem odd_sub {W : World} {lb : Nat} (h : Blk W lb 35 (vrL oddK).toArray) (i k : Nat) (hik : i + k ≤ 8) : Cells W (fun _ => True) (some ⟨lb, i * 6, none⟩) k 6 (vrL ((oddK.drop i).take k)) := by
  refine ⟨?_, fun _ => ⟨lb, i * 6, rfl, trivial, h.lt, fun j u hj => ?_⟩⟩
  · rw [vrL_len, List.length_take, List.length_drop, show oddK.length = 8 from rfl, Nat.min_eq_left (by omega)]
  · rw [h.cell, List.getElem?_toArray]
    rw [← vrL_take, ← vrL_drop, List.getElem?_take, List.getElem?_drop] at hj
    split at hj
    · exact hj
    · cases hj
set_option maxRecDepth 100000 in
set_option maxHeartbeats 4000000 in
theorem chainKnown_any (w : World) : Calls Try.prog 7 #[] w (BoolP w true) := by
  go_enter Try.func7, Try.ntmps7
  go_wp2_with fail
  go_loopw [1] (fun i wr => (∃ N : Nat, N ≤ 256 ∧ i = .int .i64 (N : Int)) ∧ Below w.heap.size w wr) (fun i _ => 256 - (intOf i).toNat)
  case atStart => exact ⟨⟨0, by omega, rfl⟩, Below.refl _ _⟩
  case round =>
    obtain ⟨⟨N, hN, rfl⟩, hb1⟩ := hrel
    rename World => wp
    by_cases hlN : N < 256
    · have i1 : (0 : Int) ≤ (N : Int) := by omega
      have i2 : (N : Int) < 256 := by omega
      have HB1 := Lib.hid hb1
      clear hb1
      go_wp2_with fail
      go_loopw [4, 2, 3] (fun i l a wr => ∃ (j : Nat) (A : Option Addr) (c : Nat) (L : List Cn.Ver) (B : Option Addr) (d : Nat) (M : List Cn.Ac), j ≤ 4 ∧ i = .int .i64 (j : Int) ∧ l = .slice A L.length c ∧ a = .slice B M.length d ∧ Inn w wr j (2 * j) A c L B d M) (fun i _ _ _ => 4 - (intOf i).toNat)
      case atStart => exact ⟨0, none, 0, [], none, 0, [], by omega, rfl, rfl, rfl, .inl ⟨rfl, rfl, rfl, rfl⟩, .inl ⟨rfl, rfl, rfl, rfl⟩, (fun _ h => by cases h), (fun _ h => by cases h), Nat.le_refl _, rfl, HB1.out⟩
      case round =>
        obtain ⟨j, A, c, L, B, d, M, hj, rfl, rfl, rfl, hI⟩ := hrel
        rename World => wq
        by_cases hlj : j < 4
        · have j1 : (0 : Int) ≤ (j : Int) := by omega
          have j2 : (j : Int) < 4 := by omega
          obtain ⟨k, hk⟩ : ∃ k, N / 2 ^ (2 * j) % 4 = k := ⟨_, rfl⟩
          have hk4 : k < 4 := by omega
          have hkk : ((N : Int) / 2 ^ (2 * j)).tmod 4 = (k : Int) := by
            rw [show ((N : Int) / 2 ^ (2 * j)) = ((N / 2 ^ (2 * j) : Nat) : Int) by push_cast; rfl, Int.tmod_eq_emod_of_nonneg (Int.natCast_nonneg _), ← hk]
            push_cast
            rfl
          obtain ⟨x, hx⟩ : ∃ x, 2 * j + 1 = x := ⟨_, rfl⟩
          have hxx : (2 : Int) * (j : Int) + 1 = (x : Int) := by omega
          have k1 : (0 : Int) ≤ (k : Int) := by omega
          have k2 : (k : Int) < 4 := by omega
          have HI := Lib.hid (And.intro hI (And.intro hk hx))
          clear hI hk
          go_wp2_with fail
          refine (live_any wq x (k : Int)).mono ?_
          rintro e w1 ⟨rfl, b1⟩
          dsimp only [Cn.liveV]
          have B1 := Lib.hid b1
          clear b1 hkk
          go_upto_if 30 with fail
          go_cut [6] (fun p wx => ∃ v : Cn.Ver, p = .pointer (some ⟨w1.heap.size, 0, none⟩) ∧ v.e = x ∧ Below w1.heap.size w1 wx ∧ Blk wx w1.heap.size 35 (verC v).toArray)
          case first =>
            by_cases hk3 : k = 3
            · subst hk3
              go_wp2_with fail
              refine (dead_any _ x).mono ?_
              rintro e w2 ⟨rfl, b2⟩
              dsimp only [Cn.deadV, Ag.none']
              have kb := (Blk.new w1 35 (verC (Cn.liveV x 3)).toArray).below b2 (Blk.new w1 35 (verC (Cn.liveV x 3)).toArray).lt
              have q0 := kb.cell 0
              have q1 := kb.cell 1
              have q2 := kb.cell 2
              have q3 := kb.cell 3
              have q4 := kb.cell 4
              have q5 := kb.cell 5
              have f0 := kb.frozen 0
              have f1 := kb.frozen 1
              have f2 := kb.frozen 2
              have f3 := kb.frozen 3
              have f4 := kb.frozen 4
              have f5 := kb.frozen 5
              simp only [verC, Cn.liveV, List.getElem?_toArray, List.getElem?_cons_zero, List.getElem?_cons_succ] at q0 q1 q2 q3 q4 q5
              go_wp2_with fail
              go_meet
              exact ⟨Cn.deadV x, rfl, rfl, ((((((((bel_al w1 _).trans (b2.mono (bel_al w1 _).size)).setCell (Nat.le_refl _) _).setCell (Nat.le_refl _) _).setCell (Nat.le_refl _) _).setCell (Nat.le_refl _) _).setCell (Nat.le_refl _) _).setCell (Nat.le_refl _) _), (((((kb.set_ 0 _).set_ 1 _).set_ 2 _).set_ 3 _).set_ 4 _).set_ 5 _⟩
            · have k3 : ¬ ((k : Int) = 3) := by omega
              go_wp2_with fail
              go_meet
              case rel => exact ⟨Cn.liveV x k, rfl, rfl, bel_al _ _, Blk.new _ _ _⟩
          case rest =>
            obtain ⟨v, rfl, hvx, hv1, hv2⟩ := hcut
            rename World => wc
            have hI2 := HI.out.1.below (B1.out.trans (hv1.mono B1.out.size))
            obtain ⟨bx, hbx⟩ : ∃ bx, w1.heap.size = bx := ⟨_, rfl⟩
            rw [hbx] at hv1 hv2
            rw [hbx]
            have e0 := hv2.cell 0
            have e1 := hv2.cell 1
            have e2 := hv2.cell 2
            have e3 := hv2.cell 3
            have e4 := hv2.cell 4
            have e5 := hv2.cell 5
            simp only [verC, List.getElem?_toArray, List.getElem?_cons_zero, List.getElem?_cons_succ] at e0 e1 e2 e3 e4 e5
            have hAb : ∀ o p, A = some ⟨bx, o, p⟩ → False := fun o p e => by
              rcases HI.out.1.1 with ⟨h1, -⟩ | ⟨g, o', cur, h1, -, h2, -⟩
              · rw [h1] at e
                cases e
              · rw [h1] at e
                injection e with e
                injection e with e1 e2 e3
                have := h2.lt
                have := B1.out.size
                omega
            have HV := Lib.hid (And.intro hI2 (And.intro hv2 (And.intro hvx (And.intro hk4 hAb))))
            clear hv1 hv2 hI2 hbx hvx hAb
            go_upto_if 37 with fail
            go_cut [2] (fun l wx => ∃ (A1 : Option Addr) (c1 : Nat) (L1 : List Cn.Ver), l = .slice A1 L1.length c1 ∧ Inn w wx (j + 1) (2 * j) A1 c1 L1 B d M ∧ Blk wx bx 35 (verC v).toArray)
            case first =>
              by_cases hk0 : k = 0
              · subst hk0
                go_wp2_with fail
                go_meet
                case rel =>
                  obtain ⟨h1, h2, h3, h4, h5, h6, h7⟩ := HV.out.1
                  exact ⟨A, c, L, rfl, ⟨h1, h2, h3, h4, by omega, h6, h7⟩, HV.out.2.1⟩
              · have k0 : (0 : Int) < (k : Int) := by omega
                obtain ⟨i0, hi, hz0, hz1, hz2⟩ := info_parts Try.info35
                obtain ⟨w6, hw6⟩ : ∃ w6, wc.alloc (.cells (verC v).toArray 35) = w6 := ⟨_, rfl⟩
                have X6 : Below wc.heap.size wc w6 := hw6 ▸ bel_al wc _
                have hsrc : ∀ q u, (verC v)[q]? = some u → w6.cell? ((⟨wc.heap.size, 0, none⟩ : Addr).add q) = some u := by
                  rw [← hw6]
                  exact ver_new wc 35 v _ rfl
                obtain ⟨A7, c7, w7, hrun, hown7, hT7, -⟩ := run_append_off (P := Try.prog) w6 (fun b => w.heap.size ≤ b ∧ ∃ o p, A = some ⟨b, o, p⟩) 22 22 35 i0 _ 6 Try.underlying22 hi hz0 hz1 rfl (by decide) (by rw [hz2]; decide) A L.length c (vrL L) ((HV.out.1.below X6).1.here) (by have := HV.out.1.2.2.2.2.1; omega) ⟨wc.heap.size, 0, none⟩ 1 1 (verC v) rfl hsrc (by intro u hu; exact vrL_one [v] u (by simpa [vrL] using hu)) (by decide) (by decide)
                have HI7 := Lib.hid (HV.out.1.ver X6 (by rw [HV.out.2.2.1]; omega) hown7 hT7)
                have hB7 : Blk w7 bx 35 (verC v).toArray := hT7.blk (HV.out.2.1.below X6 HV.out.2.1.lt) (fun e => by obtain ⟨-, o, p, e⟩ := e; exact HV.out.2.2.2.2 o p e)
                have HB7 := Lib.hid hB7
                have HRUN := Lib.hid hrun
                subst hw6
                clear hi hz0 hz1 hz2 X6 hsrc hrun hown7 hT7 hB7
                go_wp2_with (at_builtin; refine wpList_append_eq rfl _ _ 22 rfl rfl rfl HRUN.out ?_)
                go_meet
                case rel => exact ⟨A7, c7, L ++ [v], by rw [List.length_append]; rfl, HI7.out, HB7.out⟩
            case rest =>
              obtain ⟨A1, c1, L1, rfl, hI3, hB3⟩ := hcut
              rename World => wd
              have e0 := hB3.cell 0
              have e1 := hB3.cell 1
              have e2 := hB3.cell 2
              have e3 := hB3.cell 3
              have e4 := hB3.cell 4
              have e5 := hB3.cell 5
              simp only [verC, List.getElem?_toArray, List.getElem?_cons_zero, List.getElem?_cons_succ] at e0 e1 e2 e3 e4 e5
              obtain ⟨q, hq⟩ : ∃ q, N % 9 = q := ⟨_, rfl⟩
              have hq9 : q < 9 := by omega
              have hqq : ((N : Int)).tmod 9 = (q : Int) := by rw [Int.tmod_eq_emod_of_nonneg (by omega)]; omega
              have q1 : (0 : Int) ≤ (q : Int) := by omega
              have q2 : (q : Int) < 9 := by omega
              obtain ⟨i0, hi, hz0, hz1, hz2⟩ := info_parts Try.info58
              obtain ⟨w6, hw6⟩ : ∃ w6, wd.alloc (.cells (acL [⟨0, v, 0⟩, ⟨k, v, q⟩]).toArray 58) = w6 := ⟨_, rfl⟩
              have X6 : Below wd.heap.size wd w6 := hw6 ▸ bel_al wd _
              have hsrc : ∀ j u, (acL [⟨0, v, 0⟩, ⟨k, v, q⟩])[j]? = some u → w6.cell? ((⟨wd.heap.size, 0, none⟩ : Addr).add j) = some u := by
                rw [← hw6]
                exact act_new wd 58 _ _ rfl
              obtain ⟨B7, d7, w7, hrun, hown7, hT7, -⟩ := run_append_off (P := Try.prog) w6 (fun b => w.heap.size ≤ b ∧ ∃ o p, B = some ⟨b, o, p⟩) 56 56 58 i0 _ 8 Try.underlying56 hi hz0 hz1 rfl (by decide) (by rw [hz2]; decide) B M.length d (acL M) ((hI3.below X6).2.1.here) (by have := hI3.2.2.2.2.2.1; omega) ⟨wd.heap.size, 0, none⟩ 2 2 (acL [⟨0, v, 0⟩, ⟨k, v, q⟩]) rfl hsrc (acL_one _) (by decide) (by decide)
              have HI7 := Lib.hid (hI3.acts X6 (a1 := ⟨0, v, 0⟩) (a2 := ⟨k, v, q⟩) ⟨by rw [HV.out.2.2.1]; omega, by show 0 < 256; omega⟩ ⟨by rw [HV.out.2.2.1]; omega, by show k < 256; omega⟩ hown7 hT7)
              have HRUN := Lib.hid hrun
              subst hw6
              clear hi hz0 hz1 hz2 X6 hsrc hrun hown7 hT7 hI3 hB3 hq
              go_wp2_with (at_builtin; refine wpList_append_eq rfl _ _ 56 rfl rfl rfl HRUN.out ?_)
              go_roundw
              case rel => exact ⟨j + 1, A1, c1, L1, B7, d7, M ++ [⟨0, v, 0⟩, ⟨k, v, q⟩], by omega, by go_num, rfl, by rw [List.length_append]; rfl, by rw [show 2 * (j + 1) = 2 * j + 2 by omega]; exact HI7.out⟩
              case measure => simp [intOf]; omega
        · have j2 : ¬ (j : Int) < 4 := by omega
          have HT : Hid (∀ X (f q : Nat), Below wq.heap.size wq X → Calls Try.prog 3 #[.slice A L.length c, .int .u64 (f : Int), .int .u64 (q : Int)] X (BoolP X true)) := Lib.hid fun X f q hX => lawTells_any X _ A _ c L f q (hI.1.cells.below hX)
          have HK : Hid (∀ X (f p q : Nat), Below wq.heap.size wq X → f < 18446744073709551616 → p < 18446744073709551616 → q < 18446744073709551616 → Calls Try.prog 5 #[.slice A L.length c, .int .u64 (f : Int), .int .u64 (p : Int), .int .u64 (q : Int)] X (BoolP X true)) := Lib.hid fun X f p q hX h1 h2 h3 => lawKeeps_any X _ A _ c L f p q (hI.1.cells.below hX) hI.2.2.1 h1 h2 h3
          have HP : Hid (∀ X, Below wq.heap.size wq X → Calls Try.prog 4 #[.slice B M.length d] X (BoolP X true)) := Lib.hid fun X hX => lawPlays_any X _ B _ d M (hI.2.1.cells.below hX) hI.2.2.2.1
          have HI := Lib.hid hI.2.2.2.2.2.2
          obtain ⟨q, hq⟩ : ∃ q, N % 9 = q := ⟨_, rfl⟩
          have hq9 : q < 9 := by omega
          have hqq : ((N : Int)).tmod 9 = (q : Int) := by rw [Int.tmod_eq_emod_of_nonneg (by omega)]; omega
          have q1 : (0 : Int) ≤ (q : Int) := by omega
          have q2 : (q : Int) < 9 := by omega
          obtain ⟨p, hp⟩ : ∃ p, N % 3 = p := ⟨_, rfl⟩
          have hp3 : p < 3 := by omega
          have hpp : ((N : Int)).tmod 3 = (p : Int) := by rw [Int.tmod_eq_emod_of_nonneg (by omega)]; omega
          have p1 : (0 : Int) ≤ (p : Int) := by omega
          have p2 : (p : Int) < 3 := by omega
          clear hI hj hlj hq hp
          go_wp2_with fail
          go_loopw [7] (fun f wr => (∃ g : Nat, g ≤ 9 ∧ f = .int .u64 (g : Int)) ∧ Below wq.heap.size wq wr) (fun f _ => 9 - (intOf f).toNat)
          case atStart => exact ⟨⟨0, by omega, rfl⟩, Below.refl _ _⟩
          case round =>
            obtain ⟨⟨g, hg, rfl⟩, hb3⟩ := hrel
            rename World => wz
            by_cases hlg : g < 9
            · have g1 : (0 : Int) ≤ (g : Int) := by omega
              have g2 : (g : Int) < 9 := by omega
              have D := Lib.hid hb3
              clear hb3
              go_wp2_with (first
                | (go_at_call 3; (with_reducible refine (HT.out _ _ _ D.out).mono ?_); rintro e X ⟨rfl, bb⟩; replace D : Hid (Below wq.heap.size wq X) := Lib.hid (below_next D.out bb); clear bb)
                | (go_at_call 5; (with_reducible refine (HK.out _ _ _ _ D.out (by omega) (by omega) (by omega)).mono ?_); rintro e X ⟨rfl, bb⟩; replace D : Hid (Below wq.heap.size wq X) := Lib.hid (below_next D.out bb); clear bb))
              go_roundw
              case rel => exact ⟨⟨g + 1, by omega, by go_num⟩, D.out⟩
              case measure => simp [intOf]; omega
            · obtain rfl : g = 9 := by omega
              have D := Lib.hid hb3
              clear hb3
              go_wp2_with (go_at_call 4; (with_reducible refine (HP.out _ D.out).mono ?_); rintro e X ⟨rfl, bb⟩; replace D : Hid (Below wq.heap.size wq X) := Lib.hid (below_next D.out bb); clear bb)
              go_roundw
              case rel => exact ⟨⟨N + 1, by omega, by go_num⟩, below_next HI.out D.out⟩
              case measure => simp [intOf]; omega
    · have hN2 : ¬ (N : Int) < 256 := by omega
      have D := Lib.hid hb1
      clear hb1 hN hlN
      have hL0 : ∀ (X : World) (v : Int), Calls Try.prog 32 #[.int .u64 0, .int .i64 v] X (VerP X (Cn.liveV 0 v)) := fun X v => live_any X 0 v
      have hL3 : ∀ (X : World) (v : Int), Calls Try.prog 32 #[.int .u64 3, .int .i64 v] X (VerP X (Cn.liveV 3 v)) := fun X v => live_any X 3 v
      have hLM : ∀ (X : World) (v : Int), Calls Try.prog 32 #[.int .u64 18446744073709551615, .int .i64 v] X (VerP X (Cn.liveV 18446744073709551615 v)) := fun X v => live_any X 18446744073709551615 v
      have hD2 : ∀ (X : World), Calls Try.prog 33 #[.int .u64 2] X (VerP X (Cn.deadV 2)) := fun X => dead_any X 2
      have HLD := Lib.hid (And.intro hL0 (And.intro hL3 (And.intro hLM hD2)))
      clear hL0 hL3 hLM hD2
      go_wp2_with (first
        | (go_at_call 32; (first
            | (with_reducible refine (HLD.out.1 _ _).mono ?_)
            | (with_reducible refine (HLD.out.2.1 _ _).mono ?_)
            | (with_reducible refine (HLD.out.2.2.1 _ _).mono ?_)); rintro e X ⟨rfl, bb⟩; dsimp only [Cn.liveV]; replace D : Hid (Below w.heap.size w X) := Lib.hid (below_next D.out bb); clear bb)
        | (go_at_call 33; (with_reducible refine (HLD.out.2.2.2 _).mono ?_); rintro e X ⟨rfl, bb⟩; dsimp only [Cn.deadV, Ag.none']; replace D : Hid (Below w.heap.size w X) := Lib.hid (below_next D.out bb); clear bb))
      rename World => X0
      obtain ⟨w2, lb, hw2, hlb, D2, HB2⟩ : ∃ w2 lb, X0.alloc (.cells (vrL oddK).toArray 35) = w2 ∧ X0.heap.size = lb ∧ Below w.heap.size w w2 ∧ Blk w2 lb 35 (vrL oddK).toArray := ⟨_, _, rfl, rfl, D.out.alloc D.out.size _, Blk.new X0 _ _⟩
      change Code.wp _ _ _ _ (X0.alloc (.cells (vrL oddK).toArray 35))
      rw [hw2, hlb]
      have HA := Lib.hid (And.intro D2 HB2)
      clear hw2 hlb D2 HB2 D HLD
      go_loopw [9] (fun i wr => (∃ j : Nat, j ≤ 8 ∧ i = .int .i64 (j : Int)) ∧ Below w2.heap.size w2 wr) (fun i _ => 8 - (intOf i).toNat)
      case atStart => exact ⟨⟨0, by omega, rfl⟩, Below.refl _ _⟩
      case round =>
        obtain ⟨⟨i, hi, rfl⟩, hb2⟩ := hrel
        rename World => wz
        by_cases hli : i < 8
        · have i1 : (0 : Int) ≤ (i : Int) := by omega
          have i2 : (i : Int) < 8 := by omega
          have i3 : (i : Int) + 1 ≤ 8 := by omega
          obtain ⟨m, hm⟩ : ∃ m, i / 2 = m := ⟨_, rfl⟩
          have hmm : ((i : Int)).tdiv 2 = (m : Int) := by rw [Int.tdiv_eq_ediv_of_nonneg (by omega)]; omega
          have hmd : (i : Int) / 2 = (m : Int) := by omega
          have hmw : IntKind.i64.wrap (m : Int) = (m : Int) := IntWalk.i64_in _ (by omega)
          have m1 : (0 : Int) ≤ (m : Int) := by omega
          have m4 : (m : Int) ≤ 8 := by omega
          have m2 : (m : Int) ≤ (i : Int) + 1 := by omega
          have m3 : m ≤ i := by omega
          obtain ⟨y, hy⟩ : ∃ y, oddK[i]? = some y := ⟨_, List.getElem?_eq_getElem (show i < oddK.length from hli)⟩
          have hy64 : y.e < 18446744073709551616 := odd_lt y (List.mem_of_getElem? hy)
          have HS : Hid (∀ X, Below w2.heap.size w2 X → X.cell? ⟨lb, i * 6, none⟩ = some (.int .u64 (y.e : Int)) ∧ X.cell? ⟨lb, i * 6 + 1, none⟩ = some (.bool y.d) ∧ X.cell? ⟨lb, i * 6 + 2, none⟩ = some (.int .i64 y.a.c) ∧ X.cell? ⟨lb, i * 6 + 3, none⟩ = some (.int .i64 y.a.s) ∧ X.cell? ⟨lb, i * 6 + 4, none⟩ = some (.int .i64 y.a.lo) ∧ X.cell? ⟨lb, i * 6 + 5, none⟩ = some (.int .i64 y.a.hi) ∧ X.cell? ⟨lb, 18, none⟩ = some (.int .u64 3) ∧ X.cell? ⟨lb, 19, none⟩ = some (.bool false) ∧ X.cell? ⟨lb, 20, none⟩ = some (.int .i64 1) ∧ X.cell? ⟨lb, 21, none⟩ = some (.int .i64 1) ∧ X.cell? ⟨lb, 22, none⟩ = some (.int .i64 1) ∧ X.cell? ⟨lb, 23, none⟩ = some (.int .i64 1)) := Lib.hid fun X hX => by
            have k := HA.out.2.below hX HA.out.2.lt
            have z := fun q hq => (k.cell (i * 6 + q)).trans ((by rw [List.getElem?_toArray] : (vrL oddK).toArray[i * 6 + q]? = (vrL oddK)[i * 6 + q]?).trans (vrL_at oddK i y hy q hq))
            have z3 := fun q hq => (k.cell (3 * 6 + q)).trans ((by rw [List.getElem?_toArray] : (vrL oddK).toArray[3 * 6 + q]? = (vrL oddK)[3 * 6 + q]?).trans (vrL_at oddK 3 ⟨3, false, ⟨1, 1, 1, 1⟩⟩ rfl q hq))
            exact ⟨z 0 (by omega), z 1 (by omega), z 2 (by omega), z 3 (by omega), z 4 (by omega), z 5 (by omega), z3 0 (by omega), z3 1 (by omega), z3 2 (by omega), z3 3 (by omega), z3 4 (by omega), z3 5 (by omega)⟩
          have HPl : Hid (∀ X : World, Calls Try.prog 4 #[.slice (some ⟨X.heap.size, 0, none⟩) 3 3] (X.alloc (.cells #[.int .u8 0, .int .u64 3, .bool false, .int .i64 1, .int .i64 1, .int .i64 1, .int .i64 1, .int .u64 0, .int .u8 0, .int .u64 (y.e : Int), .bool y.d, .int .i64 y.a.c, .int .i64 y.a.s, .int .i64 y.a.lo, .int .i64 y.a.hi, .int .u64 0, .int .u8 3, .int .u64 (y.e : Int), .bool y.d, .int .i64 y.a.c, .int .i64 y.a.s, .int .i64 y.a.lo, .int .i64 y.a.hi, .int .u64 18446744073709551615] 58)) (BoolP (X.alloc (.cells #[.int .u8 0, .int .u64 3, .bool false, .int .i64 1, .int .i64 1, .int .i64 1, .int .i64 1, .int .u64 0, .int .u8 0, .int .u64 (y.e : Int), .bool y.d, .int .i64 y.a.c, .int .i64 y.a.s, .int .i64 y.a.lo, .int .i64 y.a.hi, .int .u64 0, .int .u8 3, .int .u64 (y.e : Int), .bool y.d, .int .i64 y.a.c, .int .i64 y.a.s, .int .i64 y.a.lo, .int .i64 y.a.hi, .int .u64 18446744073709551615] 58)) true)) := Lib.hid fun X => lawPlays_any _ (fun _ => True) _ 3 3 [⟨0, ⟨3, false, ⟨1, 1, 1, 1⟩⟩, 0⟩, ⟨0, y, 0⟩, ⟨3, y, 18446744073709551615⟩] (Cells.of_blk (Blk.new X _ _) trivial rfl rfl) (by
            intro a ha
            simp at ha
            rcases ha with rfl | rfl | rfl
            · decide
            · exact ⟨hy64, by show 0 < 256; omega⟩
            · exact ⟨hy64, by show 3 < 256; omega⟩)
          have HN : Hid (∀ X : World, Calls Try.prog 6 #[.agg #[.int .u64 (y.e : Int), .bool y.d, .int .i64 y.a.c, .int .i64 y.a.s, .int .i64 y.a.lo, .int .i64 y.a.hi], .int .u64 1, .int .u64 2] X (BoolP X true)) := Lib.hid fun X => lawNone_any X y 1 2
          obtain ⟨i0, hi0, -, hi1, -⟩ := info_parts Try.info35
          obtain ⟨n1, hn1⟩ : ∃ n1, i + 1 = n1 := ⟨_, rfl⟩
          have hnn : (i : Int) + 1 = (n1 : Int) := by omega
          have hnw : IntKind.i64.wrap (n1 : Int) = (n1 : Int) := IntWalk.i64_in _ (by omega)
          have n2 : (n1 : Int) ≤ 8 := by omega
          have n3 : (0 : Int) ≤ (n1 : Int) := by omega
          have n4 : (i : Int) ≤ (n1 : Int) := by omega
          have n5 : (m : Int) ≤ (n1 : Int) := by omega
          obtain ⟨A1, c1, hs1, hC1⟩ : ∃ A1 c1, (∀ W, (Instr.sliceAt 22 (.slice (some ⟨lb, 0, none⟩) 8 8) (some (.int .i64 (i : Int))) (some (.int .i64 (n1 : Int))) none).run Try.prog W = .ok (.slice A1 1 c1) W) ∧ ∀ X, Below w2.heap.size w2 X → Cells X (fun _ => True) A1 1 6 (vrL ((oddK.drop i).take 1)) := ⟨some ⟨lb, i * 6, none⟩, 8 - i, fun W => by
            rw [run_cut_lhs 22 35 i0 Try.underlying22 hi0 6 hi1 _ 8 8 i n1 _ _ rfl rfl (by omega) (by omega) W, if_neg (by omega), show n1 - i = 1 by omega]
            simp only [Option.map_some, add_at, Nat.zero_add], fun X hX => odd_sub (HA.out.2.below hX HA.out.2.lt) i 1 (by omega)⟩
          obtain ⟨A2, l2, c2, hs2, hC2⟩ : ∃ A2 l2 c2, (∀ W, (Instr.sliceAt 22 (.slice (some ⟨lb, 0, none⟩) 8 8) (some (.int .i64 (m : Int))) (some (.int .i64 (n1 : Int))) none).run Try.prog W = .ok (.slice A2 l2 c2) W) ∧ ∀ X, Below w2.heap.size w2 X → Cells X (fun _ => True) A2 l2 6 (vrL ((oddK.drop m).take (n1 - m))) := ⟨some ⟨lb, m * 6, none⟩, n1 - m, 8 - m, fun W => by
            rw [run_cut_lhs 22 35 i0 Try.underlying22 hi0 6 hi1 _ 8 8 m n1 _ _ rfl rfl (by omega) (by omega) W, if_neg (by omega)]
            simp only [Option.map_some, add_at, Nat.zero_add], fun X hX => odd_sub (HA.out.2.below hX HA.out.2.lt) m (n1 - m) (by omega)⟩
          have HT1 : Hid (∀ X, Below w2.heap.size w2 X → Calls Try.prog 3 #[.slice A1 ((1 : Nat)) c1, .int .u64 3, .int .u64 18446744073709551615] X (BoolP X true)) := Lib.hid fun X hX => lawTells_any X _ A1 1 c1 _ 3 18446744073709551615 (hC1 X hX)
          have HT2 : Hid (∀ X, Below w2.heap.size w2 X → Calls Try.prog 3 #[.slice A2 l2 c2, .int .u64 0, .int .u64 0] X (BoolP X true)) := Lib.hid fun X hX => lawTells_any X _ A2 l2 c2 _ 0 0 (hC2 X hX)
          clear hi0 hi1 i0 hC1 hC2
          have D := Lib.hid hb2
          have HM := Lib.hid (And.intro hli (And.intro m3 hn1))
          clear hb2 hm hy hy64 hi hn1
          go_upto_region 27 with fail
          replace D : Hid (Below w2.heap.size w2 wz.drew) := Lib.hid D.out.drew
          go_region_held3 (fun X => X.cell? ⟨lb, i * 6, none⟩ = some (.int .u64 (y.e : Int)) ∧ X.cell? ⟨lb, i * 6 + 1, none⟩ = some (.bool y.d) ∧ X.cell? ⟨lb, i * 6 + 2, none⟩ = some (.int .i64 y.a.c) ∧ X.cell? ⟨lb, i * 6 + 3, none⟩ = some (.int .i64 y.a.s) ∧ X.cell? ⟨lb, i * 6 + 4, none⟩ = some (.int .i64 y.a.lo) ∧ X.cell? ⟨lb, i * 6 + 5, none⟩ = some (.int .i64 y.a.hi) ∧ X.cell? ⟨lb, 18, none⟩ = some (.int .u64 3) ∧ X.cell? ⟨lb, 19, none⟩ = some (.bool false) ∧ X.cell? ⟨lb, 20, none⟩ = some (.int .i64 1) ∧ X.cell? ⟨lb, 21, none⟩ = some (.int .i64 1) ∧ X.cell? ⟨lb, 22, none⟩ = some (.int .i64 1) ∧ X.cell? ⟨lb, 23, none⟩ = some (.int .i64 1)) (first | with_reducible exact HS.out _ D.out | with_reducible exact HS.out _ (D.out.alloc D.out.size _))
            (first
              | (go_at_call 3; (first | (with_reducible refine (HT1.out _ D.out).mono ?_) | (with_reducible refine (HT2.out _ D.out).mono ?_)); rintro e' X ⟨rfl, bb⟩; replace D : Hid (Below w2.heap.size w2 X) := Lib.hid (below_next D.out bb); clear bb)
              | (go_at_call 6; (with_reducible refine (HN.out _).mono ?_); rintro e' X ⟨rfl, bb⟩; replace D : Hid (Below w2.heap.size w2 X) := Lib.hid (below_next D.out bb); clear bb)
              | (go_at_call 4; (with_reducible refine (HPl.out _).mono ?_); rintro e' X ⟨rfl, bb⟩; replace D : Hid (Below w2.heap.size w2 X) := Lib.hid ((D.out.alloc D.out.size _).trans (bb.mono (D.out.alloc D.out.size _).size)); clear bb))
          all_goals
            go_wp2_with fail
            exact ⟨⟨⟨n1, by omega, rfl⟩, D.out⟩, by simp [intOf]; omega⟩
        · have i2 : ¬ (i : Int) < 8 := by omega
          obtain ⟨i0, hi0, -, hi1, -⟩ := info_parts Try.info35
          have hs1 : ∀ W, (Instr.sliceAt 22 (.slice (some ⟨lb, 0, none⟩) 8 8) (some (.int .i64 7)) none none).run Try.prog W = .ok (.slice (some ⟨lb, 42, none⟩) 1 1) W := fun W => by
            rw [run_cut_ls 22 35 i0 Try.underlying22 hi0 6 hi1 _ 8 8 7 7 rfl (by omega) W, if_neg (by omega)]
            simp only [Option.map_some, add_at]
          have HK : Hid (∀ X, Below w2.heap.size w2 X → Calls Try.prog 5 #[.slice (some ⟨lb, 42, none⟩) 1 1, .int .u64 18446744073709551615, .int .u64 5, .int .u64 0] X (BoolP X true)) := Lib.hid fun X hX => lawKeeps_any X _ _ 1 1 _ 18446744073709551615 5 0 (odd_sub (HA.out.2.below hX HA.out.2.lt) 7 1 (by omega)) (fun v hv => odd_lt v (List.mem_of_mem_drop (List.mem_of_mem_take hv))) (by decide) (by decide) (by decide)
          have HT : Hid (∀ X, Calls Try.prog 3 #[.slice none 0 0, .int .u64 0, .int .u64 0] X (BoolP X true)) := Lib.hid fun X => lawTells_any X (fun _ => True) none 0 0 [] 0 0 (Cells.nil _ _ _ _)
          have D := Lib.hid hb2
          clear hb2 hi0 hi1 i0
          go_wp2_with (first
            | (go_at_call 3; (with_reducible refine (HT.out _).mono ?_); rintro e' X ⟨rfl, bb⟩; replace D : Hid (Below w2.heap.size w2 X) := Lib.hid (below_next D.out bb); clear bb)
            | (go_at_call 5; (with_reducible refine (HK.out _ D.out).mono ?_); rintro e' X ⟨rfl, bb⟩; replace D : Hid (Below w2.heap.size w2 X) := Lib.hid (below_next D.out bb); clear bb)
            | (go_at_call 8; (with_reducible refine (works_any _).mono ?_); rintro e' X ⟨rfl, bb⟩; replace D : Hid (Below w2.heap.size w2 X) := Lib.hid (below_next D.out bb); clear bb))
          go_ret
          exact ⟨rfl, HA.out.1.trans (D.out.mono HA.out.1.size)⟩
end Go.Proofs.Yteegnehfagkjcaa
