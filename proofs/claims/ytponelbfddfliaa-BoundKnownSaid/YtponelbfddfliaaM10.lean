/- BoundKnown: the examples of the chapter; filters and panes of few texts and numbers, with each other, are as the document says. A closed statement: no condition. -/
import Derived.Test.YtponelbfddfliaaBoN
import Derived.Laws.MakeOwn
import Derived.Deep.DeepCutAuto
import Derived.Test.YtponelbfddfliaaMem
import Derived.OpenShut
import Derived.ShutString
import Derived.ChangeOld
import Derived.Deep.Matrix
namespace Go.Proofs.Ytponelbfddfliaa
open Go.ChangeShapes Go.WideShapes Go.ChangeAt Go.RowKit

theorem tm9 (n m : Nat) (z : Int) (hz : z = m) (hm : 0 < m) : ∃ r : Nat, (n : Int).tmod z = r ∧ (n : Int) % z = r ∧ r < m := by
  subst hz
  exact ⟨n % m, by rw [Int.tmod_eq_emod_of_nonneg (by omega)]; rfl, rfl, Nat.mod_lt _ hm⟩
theorem text8 (i : Nat) (h : i < 8) : ∃ s : ByteArray, s.size ≤ 2 ∧ (#[.string ⟨#[]⟩, .string ⟨#[97]⟩, .string ⟨#[97, 98]⟩, .string ⟨#[98]⟩, .string ⟨#[97, 0]⟩, .string ⟨#[255]⟩, .string ⟨#[0]⟩, .string ⟨#[99]⟩] : Array Value)[i]? = some (.string s) := by
  rcases (by omega : i = 0 ∨ i = 1 ∨ i = 2 ∨ i = 3 ∨ i = 4 ∨ i = 5 ∨ i = 6 ∨ i = 7) with rfl | rfl | rfl | rfl | rfl | rfl | rfl | rfl
  all_goals exact ⟨_, by decide, rfl⟩
theorem num7 (i : Nat) (h : i < 7) : ∃ v : Int, i64ok v ∧ (#[.int .i64 0, .int .i64 5, .int .i64 6, .int .i64 7, .int .i64 (-1), .int .i64 9223372036854775807, .int .i64 (-9223372036854775808)] : Array Value)[i]? = some (.int .i64 v) := by
  rcases (by omega : i = 0 ∨ i = 1 ∨ i = 2 ∨ i = 3 ∨ i = 4 ∨ i = 5 ∨ i = 6) with rfl | rfl | rfl | rfl | rfl | rfl | rfl
  all_goals exact ⟨_, by unfold i64ok; decide, rfl⟩
theorem pans_lit (w : World) (t : TypeId) (l : List Pn) (n : Nat) (cs : Array Value) (hcs : cs = (pncells l).toArray) (hn : l.length = n) : PansIn (w.alloc (.cells cs t)) (w.alloc (.cells cs t)).heap.size (some ⟨w.heap.size, 0, none⟩) n l :=
  ⟨hn, fun h0 => ⟨w.heap.size, 0, rfl, by simp, fun i hi j hj => by
    subst hcs
    rw [Nat.zero_add, (Blk.new w t _).cell]
    have := pncells_at l i j (by omega) hj
    simpa using this⟩⟩
/-- The texts, and the numbers, where they lie. -/
def Laid (w W : World) : Prop := Held w W [(w.heap.size, 9, #[.string ⟨#[]⟩, .string ⟨#[97]⟩, .string ⟨#[97, 98]⟩, .string ⟨#[98]⟩, .string ⟨#[97, 0]⟩, .string ⟨#[255]⟩, .string ⟨#[0]⟩, .string ⟨#[99]⟩]), (w.heap.size + 1, 2, #[.int .i64 0, .int .i64 5, .int .i64 6, .int .i64 7, .int .i64 (-1), .int .i64 9223372036854775807, .int .i64 (-9223372036854775808)])]
theorem Laid.step {w W W' : World} (h : Laid w W) (b : Below W.heap.size W W') : Laid w W' := Held.step h b
theorem Laid.text {w W : World} (h : Laid w W) {i : Nat} {s : ByteArray} (hs : (#[.string ⟨#[]⟩, .string ⟨#[97]⟩, .string ⟨#[97, 98]⟩, .string ⟨#[98]⟩, .string ⟨#[97, 0]⟩, .string ⟨#[255]⟩, .string ⟨#[0]⟩, .string ⟨#[99]⟩] : Array Value)[i]? = some (.string s)) : W.cell? ⟨w.heap.size, i, none⟩ = some (.string s) := ((h.2 _ (List.mem_cons_self ..)).cell i).trans hs
theorem Laid.num {w W : World} (h : Laid w W) {i : Nat} {s : Int} (hs : (#[.int .i64 0, .int .i64 5, .int .i64 6, .int .i64 7, .int .i64 (-1), .int .i64 9223372036854775807, .int .i64 (-9223372036854775808)] : Array Value)[i]? = some (.int .i64 s)) : W.cell? ⟨w.heap.size + 1, i, none⟩ = some (.int .i64 s) := ((h.2 _ (List.mem_cons_of_mem _ (List.mem_cons_self ..))).cell i).trans hs
theorem make_all (w : World) (N : Nat) (v : Int) (hv : v = N) (hN : N ≤ 65536) : ∃ w', (Instr.makeSlice 46 (.int .i64 v) (.int .i64 v)).run Try.prog w = .ok (.slice (some ⟨w.heap.size, 0, none⟩) N N) w' ∧ Below w.heap.size w w' ∧ ∀ W, Below w'.heap.size w' W → (convert 46 9 (.slice (some ⟨w.heap.size, 0, none⟩) N N)).run Try.prog W = .ok (.string (textOf (List.replicate N 0))) W := by
  subst hv
  obtain ⟨i0, hi, hz0, hz1, hz2⟩ := info_parts Try.info5
  obtain ⟨w', hr, ho, hg⟩ := run_make_full (P := Try.prog) (w := w) w.heap.size 46 5 i0 (.int .u8 0) 1 Try.underlying46 hi hz0 hz1 .i64 .i64 N (by rw [hz2]; omega) (by unfold maxLen; omega) (Nat.le_refl _)
  have e : (madeCells (Value.int .u8 0).cells (N * 1)).toList = u8s (List.replicate N 0) := by
    show (madeCells #[Value.int .u8 0] (N * 1)).toList = _
    rw [toList_madeCells_one, Nat.mul_one]
    simp [u8s]
  rw [e] at ho
  have hb := Bytes.of_own ho (by intro x hx; have := (List.mem_replicate.1 hx).2; omega)
  exact ⟨w', hr, below_none hg, fun W hW => (conv_bytes (c := N) (hb.below hW (Nat.le_refl _))).2.2⟩
set_option maxRecDepth 100000 in
set_option maxHeartbeats 40000000 in
theorem boundKnown_any (w : World) : Calls Try.prog 5 #[] w (TrueP w) := by
  have S0 := ((Held.start w).new #[.string ⟨#[]⟩, .string ⟨#[97]⟩, .string ⟨#[97, 98]⟩, .string ⟨#[98]⟩, .string ⟨#[97, 0]⟩, .string ⟨#[255]⟩, .string ⟨#[0]⟩, .string ⟨#[99]⟩] 9).new #[.int .i64 0, .int .i64 5, .int .i64 6, .int .i64 7, .int .i64 (-1), .int .i64 9223372036854775807, .int .i64 (-9223372036854775808)] 2
  obtain ⟨w0, hw0⟩ : ∃ v, ((w.alloc (.cells #[.string ⟨#[]⟩, .string ⟨#[97]⟩, .string ⟨#[97, 98]⟩, .string ⟨#[98]⟩, .string ⟨#[97, 0]⟩, .string ⟨#[255]⟩, .string ⟨#[0]⟩, .string ⟨#[99]⟩] 9)).alloc (.cells #[.int .i64 0, .int .i64 5, .int .i64 6, .int .i64 7, .int .i64 (-1), .int .i64 9223372036854775807, .int .i64 (-9223372036854775808)] 2)) = v := ⟨_, rfl⟩
  rw [hw0, show (w.alloc (.cells #[.string ⟨#[]⟩, .string ⟨#[97]⟩, .string ⟨#[97, 98]⟩, .string ⟨#[98]⟩, .string ⟨#[97, 0]⟩, .string ⟨#[255]⟩, .string ⟨#[0]⟩, .string ⟨#[99]⟩] 9)).heap.size = w.heap.size + 1 by simp] at S0
  have HL : Hid (Laid w w0) := Lib.hid (Held.step ⟨S0.1, fun x hx => S0.2 x (by simp only [List.mem_cons, List.not_mem_nil, or_false] at hx ⊢; exact hx.symm)⟩ (Below.refl _ _))
  clear S0
  go_enter Try.func5, Try.ntmps5
  go_wp2_with fail
  clear hw0
  go_loopw [3, 4, 5, 6, 7, 8] (fun i _ _ _ _ _ wr => ∃ j : Nat, j ≤ 8 ∧ i = .int .i64 (j : Int) ∧ Below w0.heap.size w0 wr) (fun i _ _ _ _ _ _ => 8 - (intOf i).toNat)
  case atStart => exact ⟨0, by omega, rfl, Below.refl _ _⟩
  case round =>
    obtain ⟨i, hi, rfl, hbi⟩ := hrel
    have HI := Lib.hid hbi
    clear hbi
    by_cases hi8 : i < 8
    · have ii : (i : Int) < 8 := by omega
      go_wp2_with fail
      go_loopw [4, 5, 6, 7, 8] (fun i _ _ _ _ wr => ∃ j : Nat, j ≤ 8 ∧ i = .int .i64 (j : Int) ∧ Below w0.heap.size w0 wr) (fun i _ _ _ _ _ => 8 - (intOf i).toNat)
      case atStart => exact ⟨0, by omega, rfl, HI.out⟩
      case round =>
        obtain ⟨k, hk, rfl, hbk⟩ := hrel
        have HK := Lib.hid hbk
        clear hbk
        by_cases hk8 : k < 8
        · have ik : (k : Int) < 8 := by omega
          go_wp2_with fail
          go_loopw [5, 6, 7, 8] (fun i _ _ _ wr => ∃ j : Nat, j ≤ 7 ∧ i = .int .i64 (j : Int) ∧ Below w0.heap.size w0 wr) (fun i _ _ _ _ => 7 - (intOf i).toNat)
          case atStart => exact ⟨0, by omega, rfl, HK.out⟩
          case round =>
            obtain ⟨n, hn, rfl, hbn⟩ := hrel
            have HN := Lib.hid (And.intro hbn (HL.out.step hbn))
            clear hbn
            by_cases hn7 : n < 7
            · have iN : (n : Int) < 7 := by omega
              obtain ⟨nk, hnk⟩ : ∃ x, n + k = x := ⟨_, rfl⟩
              obtain ⟨ni, hni⟩ : ∃ x, n + i = x := ⟨_, rfl⟩
              obtain ⟨kn, hkn⟩ : ∃ x, k + n = x := ⟨_, rfl⟩
              have a1 : (n : Int) + k = nk := by omega
              have a2 : (n : Int) + i = ni := by omega
              have a3 : (k : Int) + n = kn := by omega
              have ua : wrap64 (nk : Int) = nk := IntWalk.wrap64_in _ (by omega)
              have ub : wrap64 (ni : Int) = ni := IntWalk.wrap64_in _ (by omega)
              have uc : wrap64 (kn : Int) = kn := IntWalk.wrap64_in _ (by omega)
              have va : IntKind.i64.wrap (nk : Int) = nk := IntWalk.i64_in _ (by omega)
              have vb : IntKind.i64.wrap (ni : Int) = ni := IntWalk.i64_in _ (by omega)
              have vc : IntKind.i64.wrap (kn : Int) = kn := IntWalk.i64_in _ (by omega)
              have z1 : (nk : Int) < 20 := by omega
              have z2 : (ni : Int) < 20 := by omega
              have z3 : (kn : Int) < 20 := by omega
              obtain ⟨r1, e1, e1', l1⟩ := tm9 nk 7 7 rfl (by omega)
              obtain ⟨r2, e2, e2', l2⟩ := tm9 ni 7 7 rfl (by omega)
              obtain ⟨r3, e3, e3', l3⟩ := tm9 kn 8 8 rfl (by omega)
              obtain ⟨r4, e4, e4', l4⟩ := tm9 i 7 7 rfl (by omega)
              obtain ⟨r5, e5, e5', l5⟩ := tm9 k 7 7 rfl (by omega)
              have j1 : (r1 : Int) < 7 := by omega
              have j2 : (r2 : Int) < 7 := by omega
              have j3 : (r3 : Int) < 8 := by omega
              have j4 : (r4 : Int) < 7 := by omega
              have j5 : (r5 : Int) < 7 := by omega
              obtain ⟨si, zi, hsi⟩ := text8 i hi8
              obtain ⟨sk, zk, hsk⟩ := text8 k hk8
              obtain ⟨s3, z3s, hs3⟩ := text8 r3 l3
              obtain ⟨vn, ovn, hvn⟩ := num7 n hn7
              obtain ⟨v1, ov1, hv1⟩ := num7 r1 l1
              obtain ⟨v2, ov2, hv2⟩ := num7 r2 l2
              obtain ⟨v4, ov4, hv4⟩ := num7 r4 l4
              obtain ⟨v5, ov5, hv5⟩ := num7 r5 l5
              have HV := Lib.hid (And.intro zi (And.intro zk (And.intro z3s (And.intro ovn (And.intro ov1 (And.intro ov2 (And.intro ov4 ov5)))))))
              have HCC : Hid (∀ W, Below wr.heap.size wr W → W.cell? ⟨w.heap.size, i, none⟩ = some (.string si) ∧ W.cell? ⟨w.heap.size, k, none⟩ = some (.string sk) ∧ W.cell? ⟨w.heap.size, r3, none⟩ = some (.string s3) ∧ W.cell? ⟨w.heap.size + 1, n, none⟩ = some (.int .i64 vn) ∧ W.cell? ⟨w.heap.size + 1, r1, none⟩ = some (.int .i64 v1) ∧ W.cell? ⟨w.heap.size + 1, r2, none⟩ = some (.int .i64 v2) ∧ W.cell? ⟨w.heap.size + 1, r4, none⟩ = some (.int .i64 v4) ∧ W.cell? ⟨w.heap.size + 1, r5, none⟩ = some (.int .i64 v5)) := Lib.hid fun W hW => by
                have h := HN.out.2.step hW
                exact ⟨h.text hsi, h.text hsk, h.text hs3, h.num hvn, h.num hv1, h.num hv2, h.num hv4, h.num hv5⟩
              have hgT : w.heap.size < wr.heap.size := (HN.out.2.2 _ (List.mem_cons_self ..)).lt
              have hgN : w.heap.size + 1 < wr.heap.size := (HN.out.2.2 _ (List.mem_cons_of_mem _ (List.mem_cons_self ..))).lt
              obtain ⟨c0, c1, c2, c3, c4, c5, c6, c7⟩ := HCC.out _ (Below.refl _ _)
              clear zi zk z3s ovn ov1 ov2 ov4 ov5 hsi hsk hs3 hvn hv1 hv2 hv4 hv5 hnk hni hkn
              go_upto_region 12 with (fail)
              go_cut [6] (fun p wx => ∃ g, p = .pointer (some ⟨g, 0, none⟩) ∧ Held wr wx [(g, 33, #[.string sk, .int .i64 v1, .int .i64 vn])])
              case first =>
                go_wp2_with fail
                go_region
                all_goals (go_wp2_with fail)
                all_goals go_meet
                all_goals (first | exact ⟨_, rfl, ((Held.start wr).new _ _).step (Below.refl _ _).drew⟩ | exact ⟨_, rfl, ((Held.start wr).step (Below.refl _ _).drew).new _ _⟩ | exact ⟨_, rfl, (Held.start wr).new _ _⟩)
              case rest =>
              obtain ⟨g, rfl, hg⟩ := hcut
              have HG := Lib.hid hg
              have HCD : Hid (∀ W, Below wc.heap.size wc W → (fun W => W.cell? ⟨w.heap.size, i, none⟩ = some (.string si) ∧ W.cell? ⟨w.heap.size, k, none⟩ = some (.string sk) ∧ W.cell? ⟨w.heap.size, r3, none⟩ = some (.string s3) ∧ W.cell? ⟨w.heap.size + 1, n, none⟩ = some (.int .i64 vn) ∧ W.cell? ⟨w.heap.size + 1, r2, none⟩ = some (.int .i64 v2) ∧ W.cell? ⟨w.heap.size + 1, r4, none⟩ = some (.int .i64 v4) ∧ W.cell? ⟨w.heap.size + 1, r5, none⟩ = some (.int .i64 v5)) W) := Lib.hid fun W hW => by
                obtain ⟨c0, c1, c2, c3, c4, c5, c6, c7⟩ := HCC.out _ (below_next hg.1 hW)
                exact ⟨c0, c1, c2, c3, c5, c6, c7⟩
              have D0 : Below wc.heap.size wc wc.drew := (Below.refl _ _).drew
              have cv : (i : Int) % 256 = i := Int.emod_eq_of_lt (by omega) (by omega)
              have cv' : IntKind.u8.wrap (i : Int) = i := by rw [IntKind.wrap_u8]; exact cv
              clear hg hgT hgN c0 c1 c2 c3 c4 c5 c6 c7
              go_upto_region 13 with (fail)
              go_cut [7] (fun l wx => ∃ gl, l = .slice (some ⟨gl, 0, none⟩) 5 5 ∧ Held wc wx [(gl, 23, #[.int .u8 1, .string si, .string ⟨#[]⟩, .int .i64 v2, .int .i64 0, .int .u8 2, .string si, .string s3, .int .i64 0, .int .i64 0, .int .u8 3, .string ⟨#[]⟩, .string ⟨#[]⟩, .int .i64 v4, .int .i64 v5, .int .u8 (i : Int), .string sk, .string ⟨#[]⟩, .int .i64 vn, .int .i64 0, .int .u8 2, .string si, .string ⟨#[]⟩, .int .i64 0, .int .i64 vn])])
              case first =>
                refine wp_region_held_drew (S := (fun W => W.cell? ⟨w.heap.size, i, none⟩ = some (.string si) ∧ W.cell? ⟨w.heap.size, k, none⟩ = some (.string sk) ∧ W.cell? ⟨w.heap.size, r3, none⟩ = some (.string s3) ∧ W.cell? ⟨w.heap.size + 1, n, none⟩ = some (.int .i64 vn) ∧ W.cell? ⟨w.heap.size + 1, r2, none⟩ = some (.int .i64 v2) ∧ W.cell? ⟨w.heap.size + 1, r4, none⟩ = some (.int .i64 v4) ∧ W.cell? ⟨w.heap.size + 1, r5, none⟩ = some (.int .i64 v5))) (by as_aux_lemma => kernel_rfl) (HCD.out _ D0) (fun hHeld => ?_)
                refine wpAnyH_take (i := 0) (oi := { dst := some 46, op := Op.move (Operand.tmp 1), type := 41, pos := "law.go:102", after := #[], guard := none }) (v := ?_) rfl (by as_aux_lemma => kernel_rfl) (by as_aux_lemma => kernel_rfl) (by as_aux_lemma => kernel_rfl) (fun _ _ _ h => h) (Or.inl ⟨by rfl, ?_⟩) (by assumption) ?_
                rotate_left
                · intro W hSW; (try dsimp only at hSW); go_simp; try with_reducible rfl
                try simp only [Act.put, List.setIfInBounds_toArray, List.set_cons_zero, List.set_cons_succ]
                refine wpAnyH_take (i := 1) (oi := { dst := some 47, op := Op.move (Operand.tmp 3), type := 3, pos := "law.go:102", after := #[], guard := none }) (v := ?_) rfl (by as_aux_lemma => kernel_rfl) (by as_aux_lemma => kernel_rfl) (by as_aux_lemma => kernel_rfl) (fun _ _ _ h => h) (Or.inl ⟨by rfl, ?_⟩) (by assumption) ?_
                rotate_left
                · intro W hSW; (try dsimp only at hSW); go_simp; try with_reducible rfl
                try simp only [Act.put, List.setIfInBounds_toArray, List.set_cons_zero, List.set_cons_succ]
                refine wpAnyH_take (i := 2) (oi := { dst := some 48, op := Op.indexAddr 41 (Operand.tmp 46) (Operand.tmp 47), type := 0, pos := "law.go:102", after := #[{ on := 0, ground := Ground.data }, { on := 1, ground := Ground.data }], guard := none }) (v := ?_) rfl (by as_aux_lemma => kernel_rfl) (by as_aux_lemma => kernel_rfl) (by as_aux_lemma => kernel_rfl) (fun _ _ _ h => h) (Or.inl ⟨by rfl, ?_⟩) (by assumption) ?_
                rotate_left
                · intro W hSW; (try dsimp only at hSW); go_simp; try with_reducible rfl
                try simp only [Act.put, List.setIfInBounds_toArray, List.set_cons_zero, List.set_cons_succ]
                refine wpAnyH_take (i := 3) (oi := { dst := some 49, op := Op.load 9 (Operand.tmp 48), type := 9, pos := "law.go:102", after := #[{ on := 2, ground := Ground.data }], guard := none }) (v := ?_) rfl (by as_aux_lemma => kernel_rfl) (by as_aux_lemma => kernel_rfl) (by as_aux_lemma => kernel_rfl) (fun _ _ _ h => h) (Or.inl ⟨by rfl, ?_⟩) (by assumption) ?_
                rotate_left
                · intro W hSW; (try dsimp only at hSW); go_simp; try with_reducible rfl
                try simp only [Act.put, List.setIfInBounds_toArray, List.set_cons_zero, List.set_cons_succ]
                refine wpAnyH_take (i := 4) (oi := { dst := some 50, op := Op.move (Operand.tmp 2), type := 42, pos := "law.go:102", after := #[], guard := none }) (v := ?_) rfl (by as_aux_lemma => kernel_rfl) (by as_aux_lemma => kernel_rfl) (by as_aux_lemma => kernel_rfl) (fun _ _ _ h => h) (Or.inl ⟨by rfl, ?_⟩) (by assumption) ?_
                rotate_left
                · intro W hSW; (try dsimp only at hSW); go_simp; try with_reducible rfl
                try simp only [Act.put, List.setIfInBounds_toArray, List.set_cons_zero, List.set_cons_succ]
                refine wpAnyH_take (i := 5) (oi := { dst := some 51, op := Op.move (Operand.tmp 5), type := 3, pos := "law.go:102", after := #[], guard := none }) (v := ?_) rfl (by as_aux_lemma => kernel_rfl) (by as_aux_lemma => kernel_rfl) (by as_aux_lemma => kernel_rfl) (fun _ _ _ h => h) (Or.inl ⟨by rfl, ?_⟩) (by assumption) ?_
                rotate_left
                · intro W hSW; (try dsimp only at hSW); go_simp; try with_reducible rfl
                try simp only [Act.put, List.setIfInBounds_toArray, List.set_cons_zero, List.set_cons_succ]
                refine wpAnyH_take (i := 6) (oi := { dst := some 52, op := Op.move (Operand.tmp 3), type := 3, pos := "law.go:102", after := #[], guard := none }) (v := ?_) rfl (by as_aux_lemma => kernel_rfl) (by as_aux_lemma => kernel_rfl) (by as_aux_lemma => kernel_rfl) (fun _ _ _ h => h) (Or.inl ⟨by rfl, ?_⟩) (by assumption) ?_
                rotate_left
                · intro W hSW; (try dsimp only at hSW); go_simp; try with_reducible rfl
                try simp only [Act.put, List.setIfInBounds_toArray, List.set_cons_zero, List.set_cons_succ]
                refine wpAnyH_take (i := 7) (oi := { dst := some 53, op := Op.binOp BinOp.add 3 (Operand.tmp 51) (Operand.tmp 52) 3, type := 3, pos := "law.go:102", after := #[{ on := 5, ground := Ground.data }, { on := 6, ground := Ground.data }], guard := none }) (v := ?_) rfl (by as_aux_lemma => kernel_rfl) (by as_aux_lemma => kernel_rfl) (by as_aux_lemma => kernel_rfl) (fun _ _ _ h => h) (Or.inl ⟨by rfl, ?_⟩) (by assumption) ?_
                rotate_left
                · intro W hSW; (try dsimp only at hSW); go_simp; try with_reducible rfl
                try simp only [Act.put, List.setIfInBounds_toArray, List.set_cons_zero, List.set_cons_succ]
                refine wpAnyH_take (i := 8) (oi := { dst := some 54, op := Op.binOp BinOp.rem 3 (Operand.tmp 53) (Operand.const (Value.int IntKind.i64 7)) 3, type := 3, pos := "law.go:102", after := #[{ on := 7, ground := Ground.data }], guard := none }) (v := ?_) rfl (by as_aux_lemma => kernel_rfl) (by as_aux_lemma => kernel_rfl) (by as_aux_lemma => kernel_rfl) (fun _ _ _ h => h) (Or.inl ⟨by rfl, ?_⟩) (by assumption) ?_
                rotate_left
                · intro W hSW; (try dsimp only at hSW); go_simp; try with_reducible rfl
                try simp only [Act.put, List.setIfInBounds_toArray, List.set_cons_zero, List.set_cons_succ]
                refine wpAnyH_take (i := 9) (oi := { dst := some 55, op := Op.indexAddr 42 (Operand.tmp 50) (Operand.tmp 54), type := 0, pos := "law.go:102", after := #[{ on := 4, ground := Ground.data }, { on := 8, ground := Ground.data }], guard := none }) (v := ?_) rfl (by as_aux_lemma => kernel_rfl) (by as_aux_lemma => kernel_rfl) (by as_aux_lemma => kernel_rfl) (fun _ _ _ h => h) (Or.inl ⟨by rfl, ?_⟩) (by assumption) ?_
                rotate_left
                · intro W hSW; (try dsimp only at hSW); go_simp; try with_reducible rfl
                try simp only [Act.put, List.setIfInBounds_toArray, List.set_cons_zero, List.set_cons_succ]
                refine wpAnyH_take (i := 10) (oi := { dst := some 56, op := Op.load 2 (Operand.tmp 55), type := 2, pos := "law.go:102", after := #[{ on := 9, ground := Ground.data }], guard := none }) (v := ?_) rfl (by as_aux_lemma => kernel_rfl) (by as_aux_lemma => kernel_rfl) (by as_aux_lemma => kernel_rfl) (fun _ _ _ h => h) (Or.inl ⟨by rfl, ?_⟩) (by assumption) ?_
                rotate_left
                · intro W hSW; (try dsimp only at hSW); go_simp; try with_reducible rfl
                try simp only [Act.put, List.setIfInBounds_toArray, List.set_cons_zero, List.set_cons_succ]
                refine wpAnyH_take (i := 12) (oi := { dst := some 58, op := Op.move (Operand.tmp 1), type := 41, pos := "law.go:102", after := #[], guard := none }) (v := ?_) rfl (by as_aux_lemma => kernel_rfl) (by as_aux_lemma => kernel_rfl) (by as_aux_lemma => kernel_rfl) (fun _ _ _ h => h) (Or.inl ⟨by rfl, ?_⟩) (by assumption) ?_
                rotate_left
                · intro W hSW; (try dsimp only at hSW); go_simp; try with_reducible rfl
                try simp only [Act.put, List.setIfInBounds_toArray, List.set_cons_zero, List.set_cons_succ]
                refine wpAnyH_take (i := 13) (oi := { dst := some 59, op := Op.move (Operand.tmp 3), type := 3, pos := "law.go:102", after := #[], guard := none }) (v := ?_) rfl (by as_aux_lemma => kernel_rfl) (by as_aux_lemma => kernel_rfl) (by as_aux_lemma => kernel_rfl) (fun _ _ _ h => h) (Or.inl ⟨by rfl, ?_⟩) (by assumption) ?_
                rotate_left
                · intro W hSW; (try dsimp only at hSW); go_simp; try with_reducible rfl
                try simp only [Act.put, List.setIfInBounds_toArray, List.set_cons_zero, List.set_cons_succ]
                refine wpAnyH_take (i := 14) (oi := { dst := some 60, op := Op.indexAddr 41 (Operand.tmp 58) (Operand.tmp 59), type := 0, pos := "law.go:102", after := #[{ on := 12, ground := Ground.data }, { on := 13, ground := Ground.data }], guard := none }) (v := ?_) rfl (by as_aux_lemma => kernel_rfl) (by as_aux_lemma => kernel_rfl) (by as_aux_lemma => kernel_rfl) (fun _ _ _ h => h) (Or.inl ⟨by rfl, ?_⟩) (by assumption) ?_
                rotate_left
                · intro W hSW; (try dsimp only at hSW); go_simp; try with_reducible rfl
                try simp only [Act.put, List.setIfInBounds_toArray, List.set_cons_zero, List.set_cons_succ]
                refine wpAnyH_take (i := 15) (oi := { dst := some 61, op := Op.load 9 (Operand.tmp 60), type := 9, pos := "law.go:102", after := #[{ on := 14, ground := Ground.data }], guard := none }) (v := ?_) rfl (by as_aux_lemma => kernel_rfl) (by as_aux_lemma => kernel_rfl) (by as_aux_lemma => kernel_rfl) (fun _ _ _ h => h) (Or.inl ⟨by rfl, ?_⟩) (by assumption) ?_
                rotate_left
                · intro W hSW; (try dsimp only at hSW); go_simp; try with_reducible rfl
                try simp only [Act.put, List.setIfInBounds_toArray, List.set_cons_zero, List.set_cons_succ]
                refine wpAnyH_take (i := 16) (oi := { dst := some 62, op := Op.move (Operand.tmp 1), type := 41, pos := "law.go:102", after := #[], guard := none }) (v := ?_) rfl (by as_aux_lemma => kernel_rfl) (by as_aux_lemma => kernel_rfl) (by as_aux_lemma => kernel_rfl) (fun _ _ _ h => h) (Or.inl ⟨by rfl, ?_⟩) (by assumption) ?_
                rotate_left
                · intro W hSW; (try dsimp only at hSW); go_simp; try with_reducible rfl
                try simp only [Act.put, List.setIfInBounds_toArray, List.set_cons_zero, List.set_cons_succ]
                refine wpAnyH_take (i := 17) (oi := { dst := some 63, op := Op.move (Operand.tmp 4), type := 3, pos := "law.go:102", after := #[], guard := none }) (v := ?_) rfl (by as_aux_lemma => kernel_rfl) (by as_aux_lemma => kernel_rfl) (by as_aux_lemma => kernel_rfl) (fun _ _ _ h => h) (Or.inl ⟨by rfl, ?_⟩) (by assumption) ?_
                rotate_left
                · intro W hSW; (try dsimp only at hSW); go_simp; try with_reducible rfl
                try simp only [Act.put, List.setIfInBounds_toArray, List.set_cons_zero, List.set_cons_succ]
                refine wpAnyH_take (i := 18) (oi := { dst := some 64, op := Op.move (Operand.tmp 5), type := 3, pos := "law.go:102", after := #[], guard := none }) (v := ?_) rfl (by as_aux_lemma => kernel_rfl) (by as_aux_lemma => kernel_rfl) (by as_aux_lemma => kernel_rfl) (fun _ _ _ h => h) (Or.inl ⟨by rfl, ?_⟩) (by assumption) ?_
                rotate_left
                · intro W hSW; (try dsimp only at hSW); go_simp; try with_reducible rfl
                try simp only [Act.put, List.setIfInBounds_toArray, List.set_cons_zero, List.set_cons_succ]
                refine wpAnyH_take (i := 19) (oi := { dst := some 65, op := Op.binOp BinOp.add 3 (Operand.tmp 63) (Operand.tmp 64) 3, type := 3, pos := "law.go:102", after := #[{ on := 17, ground := Ground.data }, { on := 18, ground := Ground.data }], guard := none }) (v := ?_) rfl (by as_aux_lemma => kernel_rfl) (by as_aux_lemma => kernel_rfl) (by as_aux_lemma => kernel_rfl) (fun _ _ _ h => h) (Or.inl ⟨by rfl, ?_⟩) (by assumption) ?_
                rotate_left
                · intro W hSW; (try dsimp only at hSW); go_simp; try with_reducible rfl
                try simp only [Act.put, List.setIfInBounds_toArray, List.set_cons_zero, List.set_cons_succ]
                refine wpAnyH_take (i := 20) (oi := { dst := some 66, op := Op.binOp BinOp.rem 3 (Operand.tmp 65) (Operand.const (Value.int IntKind.i64 8)) 3, type := 3, pos := "law.go:102", after := #[{ on := 19, ground := Ground.data }], guard := none }) (v := ?_) rfl (by as_aux_lemma => kernel_rfl) (by as_aux_lemma => kernel_rfl) (by as_aux_lemma => kernel_rfl) (fun _ _ _ h => h) (Or.inl ⟨by rfl, ?_⟩) (by assumption) ?_
                rotate_left
                · intro W hSW; (try dsimp only at hSW); go_simp; try with_reducible rfl
                try simp only [Act.put, List.setIfInBounds_toArray, List.set_cons_zero, List.set_cons_succ]
                refine wpAnyH_take (i := 21) (oi := { dst := some 67, op := Op.indexAddr 41 (Operand.tmp 62) (Operand.tmp 66), type := 0, pos := "law.go:102", after := #[{ on := 16, ground := Ground.data }, { on := 20, ground := Ground.data }], guard := none }) (v := ?_) rfl (by as_aux_lemma => kernel_rfl) (by as_aux_lemma => kernel_rfl) (by as_aux_lemma => kernel_rfl) (fun _ _ _ h => h) (Or.inl ⟨by rfl, ?_⟩) (by assumption) ?_
                rotate_left
                · intro W hSW; (try dsimp only at hSW); go_simp; try with_reducible rfl
                try simp only [Act.put, List.setIfInBounds_toArray, List.set_cons_zero, List.set_cons_succ]
                refine wpAnyH_take (i := 22) (oi := { dst := some 68, op := Op.load 9 (Operand.tmp 67), type := 9, pos := "law.go:102", after := #[{ on := 21, ground := Ground.data }], guard := none }) (v := ?_) rfl (by as_aux_lemma => kernel_rfl) (by as_aux_lemma => kernel_rfl) (by as_aux_lemma => kernel_rfl) (fun _ _ _ h => h) (Or.inl ⟨by rfl, ?_⟩) (by assumption) ?_
                rotate_left
                · intro W hSW; (try dsimp only at hSW); go_simp; try with_reducible rfl
                try simp only [Act.put, List.setIfInBounds_toArray, List.set_cons_zero, List.set_cons_succ]
                refine wpAnyH_take (i := 24) (oi := { dst := some 70, op := Op.move (Operand.tmp 2), type := 42, pos := "law.go:102", after := #[], guard := none }) (v := ?_) rfl (by as_aux_lemma => kernel_rfl) (by as_aux_lemma => kernel_rfl) (by as_aux_lemma => kernel_rfl) (fun _ _ _ h => h) (Or.inl ⟨by rfl, ?_⟩) (by assumption) ?_
                rotate_left
                · intro W hSW; (try dsimp only at hSW); go_simp; try with_reducible rfl
                try simp only [Act.put, List.setIfInBounds_toArray, List.set_cons_zero, List.set_cons_succ]
                refine wpAnyH_take (i := 25) (oi := { dst := some 71, op := Op.move (Operand.tmp 3), type := 3, pos := "law.go:102", after := #[], guard := none }) (v := ?_) rfl (by as_aux_lemma => kernel_rfl) (by as_aux_lemma => kernel_rfl) (by as_aux_lemma => kernel_rfl) (fun _ _ _ h => h) (Or.inl ⟨by rfl, ?_⟩) (by assumption) ?_
                rotate_left
                · intro W hSW; (try dsimp only at hSW); go_simp; try with_reducible rfl
                try simp only [Act.put, List.setIfInBounds_toArray, List.set_cons_zero, List.set_cons_succ]
                refine wpAnyH_take (i := 26) (oi := { dst := some 72, op := Op.binOp BinOp.rem 3 (Operand.tmp 71) (Operand.const (Value.int IntKind.i64 7)) 3, type := 3, pos := "law.go:102", after := #[{ on := 25, ground := Ground.data }], guard := none }) (v := ?_) rfl (by as_aux_lemma => kernel_rfl) (by as_aux_lemma => kernel_rfl) (by as_aux_lemma => kernel_rfl) (fun _ _ _ h => h) (Or.inl ⟨by rfl, ?_⟩) (by assumption) ?_
                rotate_left
                · intro W hSW; (try dsimp only at hSW); go_simp; try with_reducible rfl
                try simp only [Act.put, List.setIfInBounds_toArray, List.set_cons_zero, List.set_cons_succ]
                refine wpAnyH_take (i := 27) (oi := { dst := some 73, op := Op.indexAddr 42 (Operand.tmp 70) (Operand.tmp 72), type := 0, pos := "law.go:102", after := #[{ on := 24, ground := Ground.data }, { on := 26, ground := Ground.data }], guard := none }) (v := ?_) rfl (by as_aux_lemma => kernel_rfl) (by as_aux_lemma => kernel_rfl) (by as_aux_lemma => kernel_rfl) (fun _ _ _ h => h) (Or.inl ⟨by rfl, ?_⟩) (by assumption) ?_
                rotate_left
                · intro W hSW; (try dsimp only at hSW); go_simp; try with_reducible rfl
                try simp only [Act.put, List.setIfInBounds_toArray, List.set_cons_zero, List.set_cons_succ]
                refine wpAnyH_take (i := 28) (oi := { dst := some 74, op := Op.load 2 (Operand.tmp 73), type := 2, pos := "law.go:102", after := #[{ on := 27, ground := Ground.data }], guard := none }) (v := ?_) rfl (by as_aux_lemma => kernel_rfl) (by as_aux_lemma => kernel_rfl) (by as_aux_lemma => kernel_rfl) (fun _ _ _ h => h) (Or.inl ⟨by rfl, ?_⟩) (by assumption) ?_
                rotate_left
                · intro W hSW; (try dsimp only at hSW); go_simp; try with_reducible rfl
                try simp only [Act.put, List.setIfInBounds_toArray, List.set_cons_zero, List.set_cons_succ]
                refine wpAnyH_take (i := 29) (oi := { dst := some 75, op := Op.move (Operand.tmp 2), type := 42, pos := "law.go:102", after := #[], guard := none }) (v := ?_) rfl (by as_aux_lemma => kernel_rfl) (by as_aux_lemma => kernel_rfl) (by as_aux_lemma => kernel_rfl) (fun _ _ _ h => h) (Or.inl ⟨by rfl, ?_⟩) (by assumption) ?_
                rotate_left
                · intro W hSW; (try dsimp only at hSW); go_simp; try with_reducible rfl
                try simp only [Act.put, List.setIfInBounds_toArray, List.set_cons_zero, List.set_cons_succ]
                refine wpAnyH_take (i := 30) (oi := { dst := some 76, op := Op.move (Operand.tmp 4), type := 3, pos := "law.go:102", after := #[], guard := none }) (v := ?_) rfl (by as_aux_lemma => kernel_rfl) (by as_aux_lemma => kernel_rfl) (by as_aux_lemma => kernel_rfl) (fun _ _ _ h => h) (Or.inl ⟨by rfl, ?_⟩) (by assumption) ?_
                rotate_left
                · intro W hSW; (try dsimp only at hSW); go_simp; try with_reducible rfl
                try simp only [Act.put, List.setIfInBounds_toArray, List.set_cons_zero, List.set_cons_succ]
                refine wpAnyH_take (i := 31) (oi := { dst := some 77, op := Op.binOp BinOp.rem 3 (Operand.tmp 76) (Operand.const (Value.int IntKind.i64 7)) 3, type := 3, pos := "law.go:102", after := #[{ on := 30, ground := Ground.data }], guard := none }) (v := ?_) rfl (by as_aux_lemma => kernel_rfl) (by as_aux_lemma => kernel_rfl) (by as_aux_lemma => kernel_rfl) (fun _ _ _ h => h) (Or.inl ⟨by rfl, ?_⟩) (by assumption) ?_
                rotate_left
                · intro W hSW; (try dsimp only at hSW); go_simp; try with_reducible rfl
                try simp only [Act.put, List.setIfInBounds_toArray, List.set_cons_zero, List.set_cons_succ]
                refine wpAnyH_take (i := 32) (oi := { dst := some 78, op := Op.indexAddr 42 (Operand.tmp 75) (Operand.tmp 77), type := 0, pos := "law.go:102", after := #[{ on := 29, ground := Ground.data }, { on := 31, ground := Ground.data }], guard := none }) (v := ?_) rfl (by as_aux_lemma => kernel_rfl) (by as_aux_lemma => kernel_rfl) (by as_aux_lemma => kernel_rfl) (fun _ _ _ h => h) (Or.inl ⟨by rfl, ?_⟩) (by assumption) ?_
                rotate_left
                · intro W hSW; (try dsimp only at hSW); go_simp; try with_reducible rfl
                try simp only [Act.put, List.setIfInBounds_toArray, List.set_cons_zero, List.set_cons_succ]
                refine wpAnyH_take (i := 33) (oi := { dst := some 79, op := Op.load 2 (Operand.tmp 78), type := 2, pos := "law.go:102", after := #[{ on := 32, ground := Ground.data }], guard := none }) (v := ?_) rfl (by as_aux_lemma => kernel_rfl) (by as_aux_lemma => kernel_rfl) (by as_aux_lemma => kernel_rfl) (fun _ _ _ h => h) (Or.inl ⟨by rfl, ?_⟩) (by assumption) ?_
                rotate_left
                · intro W hSW; (try dsimp only at hSW); go_simp; try with_reducible rfl
                try simp only [Act.put, List.setIfInBounds_toArray, List.set_cons_zero, List.set_cons_succ]
                refine wpAnyH_take (i := 35) (oi := { dst := some 81, op := Op.move (Operand.tmp 3), type := 3, pos := "law.go:102", after := #[], guard := none }) (v := ?_) rfl (by as_aux_lemma => kernel_rfl) (by as_aux_lemma => kernel_rfl) (by as_aux_lemma => kernel_rfl) (fun _ _ _ h => h) (Or.inl ⟨by rfl, ?_⟩) (by assumption) ?_
                rotate_left
                · intro W hSW; (try dsimp only at hSW); go_simp; try with_reducible rfl
                try simp only [Act.put, List.setIfInBounds_toArray, List.set_cons_zero, List.set_cons_succ]
                refine wpAnyH_take (i := 36) (oi := { dst := some 82, op := Op.convert 3 5 (Operand.tmp 81), type := 5, pos := "law.go:102", after := #[{ on := 35, ground := Ground.data }], guard := none }) (v := ?_) rfl (by as_aux_lemma => kernel_rfl) (by as_aux_lemma => kernel_rfl) (by as_aux_lemma => kernel_rfl) (fun _ _ _ h => h) (Or.inl ⟨by rfl, ?_⟩) (by assumption) ?_
                rotate_left
                · intro W hSW; (try dsimp only at hSW); go_simp; try with_reducible rfl
                try simp only [Act.put, List.setIfInBounds_toArray, List.set_cons_zero, List.set_cons_succ]
                refine wpAnyH_take (i := 37) (oi := { dst := some 83, op := Op.move (Operand.tmp 1), type := 41, pos := "law.go:102", after := #[], guard := none }) (v := ?_) rfl (by as_aux_lemma => kernel_rfl) (by as_aux_lemma => kernel_rfl) (by as_aux_lemma => kernel_rfl) (fun _ _ _ h => h) (Or.inl ⟨by rfl, ?_⟩) (by assumption) ?_
                rotate_left
                · intro W hSW; (try dsimp only at hSW); go_simp; try with_reducible rfl
                try simp only [Act.put, List.setIfInBounds_toArray, List.set_cons_zero, List.set_cons_succ]
                refine wpAnyH_take (i := 38) (oi := { dst := some 84, op := Op.move (Operand.tmp 4), type := 3, pos := "law.go:102", after := #[], guard := none }) (v := ?_) rfl (by as_aux_lemma => kernel_rfl) (by as_aux_lemma => kernel_rfl) (by as_aux_lemma => kernel_rfl) (fun _ _ _ h => h) (Or.inl ⟨by rfl, ?_⟩) (by assumption) ?_
                rotate_left
                · intro W hSW; (try dsimp only at hSW); go_simp; try with_reducible rfl
                try simp only [Act.put, List.setIfInBounds_toArray, List.set_cons_zero, List.set_cons_succ]
                refine wpAnyH_take (i := 39) (oi := { dst := some 85, op := Op.indexAddr 41 (Operand.tmp 83) (Operand.tmp 84), type := 0, pos := "law.go:102", after := #[{ on := 37, ground := Ground.data }, { on := 38, ground := Ground.data }], guard := none }) (v := ?_) rfl (by as_aux_lemma => kernel_rfl) (by as_aux_lemma => kernel_rfl) (by as_aux_lemma => kernel_rfl) (fun _ _ _ h => h) (Or.inl ⟨by rfl, ?_⟩) (by assumption) ?_
                rotate_left
                · intro W hSW; (try dsimp only at hSW); go_simp; try with_reducible rfl
                try simp only [Act.put, List.setIfInBounds_toArray, List.set_cons_zero, List.set_cons_succ]
                refine wpAnyH_take (i := 40) (oi := { dst := some 86, op := Op.load 9 (Operand.tmp 85), type := 9, pos := "law.go:102", after := #[{ on := 39, ground := Ground.data }], guard := none }) (v := ?_) rfl (by as_aux_lemma => kernel_rfl) (by as_aux_lemma => kernel_rfl) (by as_aux_lemma => kernel_rfl) (fun _ _ _ h => h) (Or.inl ⟨by rfl, ?_⟩) (by assumption) ?_
                rotate_left
                · intro W hSW; (try dsimp only at hSW); go_simp; try with_reducible rfl
                try simp only [Act.put, List.setIfInBounds_toArray, List.set_cons_zero, List.set_cons_succ]
                refine wpAnyH_take (i := 41) (oi := { dst := some 87, op := Op.move (Operand.tmp 2), type := 42, pos := "law.go:102", after := #[], guard := none }) (v := ?_) rfl (by as_aux_lemma => kernel_rfl) (by as_aux_lemma => kernel_rfl) (by as_aux_lemma => kernel_rfl) (fun _ _ _ h => h) (Or.inl ⟨by rfl, ?_⟩) (by assumption) ?_
                rotate_left
                · intro W hSW; (try dsimp only at hSW); go_simp; try with_reducible rfl
                try simp only [Act.put, List.setIfInBounds_toArray, List.set_cons_zero, List.set_cons_succ]
                refine wpAnyH_take (i := 42) (oi := { dst := some 88, op := Op.move (Operand.tmp 5), type := 3, pos := "law.go:102", after := #[], guard := none }) (v := ?_) rfl (by as_aux_lemma => kernel_rfl) (by as_aux_lemma => kernel_rfl) (by as_aux_lemma => kernel_rfl) (fun _ _ _ h => h) (Or.inl ⟨by rfl, ?_⟩) (by assumption) ?_
                rotate_left
                · intro W hSW; (try dsimp only at hSW); go_simp; try with_reducible rfl
                try simp only [Act.put, List.setIfInBounds_toArray, List.set_cons_zero, List.set_cons_succ]
                refine wpAnyH_take (i := 43) (oi := { dst := some 89, op := Op.indexAddr 42 (Operand.tmp 87) (Operand.tmp 88), type := 0, pos := "law.go:102", after := #[{ on := 41, ground := Ground.data }, { on := 42, ground := Ground.data }], guard := none }) (v := ?_) rfl (by as_aux_lemma => kernel_rfl) (by as_aux_lemma => kernel_rfl) (by as_aux_lemma => kernel_rfl) (fun _ _ _ h => h) (Or.inl ⟨by rfl, ?_⟩) (by assumption) ?_
                rotate_left
                · intro W hSW; (try dsimp only at hSW); go_simp; try with_reducible rfl
                try simp only [Act.put, List.setIfInBounds_toArray, List.set_cons_zero, List.set_cons_succ]
                refine wpAnyH_take (i := 44) (oi := { dst := some 90, op := Op.load 2 (Operand.tmp 89), type := 2, pos := "law.go:102", after := #[{ on := 43, ground := Ground.data }], guard := none }) (v := ?_) rfl (by as_aux_lemma => kernel_rfl) (by as_aux_lemma => kernel_rfl) (by as_aux_lemma => kernel_rfl) (fun _ _ _ h => h) (Or.inl ⟨by rfl, ?_⟩) (by assumption) ?_
                rotate_left
                · intro W hSW; (try dsimp only at hSW); go_simp; try with_reducible rfl
                try simp only [Act.put, List.setIfInBounds_toArray, List.set_cons_zero, List.set_cons_succ]
                refine wpAnyH_take (i := 45) (oi := { dst := some 91, op := Op.build 23 #[(0, Operand.tmp 82), (1, Operand.tmp 86), (3, Operand.tmp 90)], type := 23, pos := "law.go:102", after := #[{ on := 36, ground := Ground.data }, { on := 40, ground := Ground.data }, { on := 44, ground := Ground.data }], guard := none }) (v := ?_) rfl (by as_aux_lemma => kernel_rfl) (by as_aux_lemma => kernel_rfl) (by as_aux_lemma => kernel_rfl) (fun _ _ _ h => h) (Or.inl ⟨by rfl, ?_⟩) (by assumption) ?_
                rotate_left
                · intro W hSW; (try dsimp only at hSW); go_simp; try with_reducible rfl
                try simp only [Act.put, List.setIfInBounds_toArray, List.set_cons_zero, List.set_cons_succ]
                refine wpAnyH_take (i := 46) (oi := { dst := some 92, op := Op.move (Operand.tmp 1), type := 41, pos := "law.go:102", after := #[], guard := none }) (v := ?_) rfl (by as_aux_lemma => kernel_rfl) (by as_aux_lemma => kernel_rfl) (by as_aux_lemma => kernel_rfl) (fun _ _ _ h => h) (Or.inl ⟨by rfl, ?_⟩) (by assumption) ?_
                rotate_left
                · intro W hSW; (try dsimp only at hSW); go_simp; try with_reducible rfl
                try simp only [Act.put, List.setIfInBounds_toArray, List.set_cons_zero, List.set_cons_succ]
                refine wpAnyH_take (i := 47) (oi := { dst := some 93, op := Op.move (Operand.tmp 3), type := 3, pos := "law.go:102", after := #[], guard := none }) (v := ?_) rfl (by as_aux_lemma => kernel_rfl) (by as_aux_lemma => kernel_rfl) (by as_aux_lemma => kernel_rfl) (fun _ _ _ h => h) (Or.inl ⟨by rfl, ?_⟩) (by assumption) ?_
                rotate_left
                · intro W hSW; (try dsimp only at hSW); go_simp; try with_reducible rfl
                try simp only [Act.put, List.setIfInBounds_toArray, List.set_cons_zero, List.set_cons_succ]
                refine wpAnyH_take (i := 48) (oi := { dst := some 94, op := Op.indexAddr 41 (Operand.tmp 92) (Operand.tmp 93), type := 0, pos := "law.go:102", after := #[{ on := 46, ground := Ground.data }, { on := 47, ground := Ground.data }], guard := none }) (v := ?_) rfl (by as_aux_lemma => kernel_rfl) (by as_aux_lemma => kernel_rfl) (by as_aux_lemma => kernel_rfl) (fun _ _ _ h => h) (Or.inl ⟨by rfl, ?_⟩) (by assumption) ?_
                rotate_left
                · intro W hSW; (try dsimp only at hSW); go_simp; try with_reducible rfl
                try simp only [Act.put, List.setIfInBounds_toArray, List.set_cons_zero, List.set_cons_succ]
                refine wpAnyH_take (i := 49) (oi := { dst := some 95, op := Op.load 9 (Operand.tmp 94), type := 9, pos := "law.go:102", after := #[{ on := 48, ground := Ground.data }], guard := none }) (v := ?_) rfl (by as_aux_lemma => kernel_rfl) (by as_aux_lemma => kernel_rfl) (by as_aux_lemma => kernel_rfl) (fun _ _ _ h => h) (Or.inl ⟨by rfl, ?_⟩) (by assumption) ?_
                rotate_left
                · intro W hSW; (try dsimp only at hSW); go_simp; try with_reducible rfl
                try simp only [Act.put, List.setIfInBounds_toArray, List.set_cons_zero, List.set_cons_succ]
                refine wpAnyH_take (i := 50) (oi := { dst := some 96, op := Op.move (Operand.tmp 2), type := 42, pos := "law.go:102", after := #[], guard := none }) (v := ?_) rfl (by as_aux_lemma => kernel_rfl) (by as_aux_lemma => kernel_rfl) (by as_aux_lemma => kernel_rfl) (fun _ _ _ h => h) (Or.inl ⟨by rfl, ?_⟩) (by assumption) ?_
                rotate_left
                · intro W hSW; (try dsimp only at hSW); go_simp; try with_reducible rfl
                try simp only [Act.put, List.setIfInBounds_toArray, List.set_cons_zero, List.set_cons_succ]
                refine wpAnyH_take (i := 51) (oi := { dst := some 97, op := Op.move (Operand.tmp 5), type := 3, pos := "law.go:102", after := #[], guard := none }) (v := ?_) rfl (by as_aux_lemma => kernel_rfl) (by as_aux_lemma => kernel_rfl) (by as_aux_lemma => kernel_rfl) (fun _ _ _ h => h) (Or.inl ⟨by rfl, ?_⟩) (by assumption) ?_
                rotate_left
                · intro W hSW; (try dsimp only at hSW); go_simp; try with_reducible rfl
                try simp only [Act.put, List.setIfInBounds_toArray, List.set_cons_zero, List.set_cons_succ]
                refine wpAnyH_take (i := 52) (oi := { dst := some 98, op := Op.indexAddr 42 (Operand.tmp 96) (Operand.tmp 97), type := 0, pos := "law.go:102", after := #[{ on := 50, ground := Ground.data }, { on := 51, ground := Ground.data }], guard := none }) (v := ?_) rfl (by as_aux_lemma => kernel_rfl) (by as_aux_lemma => kernel_rfl) (by as_aux_lemma => kernel_rfl) (fun _ _ _ h => h) (Or.inl ⟨by rfl, ?_⟩) (by assumption) ?_
                rotate_left
                · intro W hSW; (try dsimp only at hSW); go_simp; try with_reducible rfl
                try simp only [Act.put, List.setIfInBounds_toArray, List.set_cons_zero, List.set_cons_succ]
                refine wpAnyH_take (i := 53) (oi := { dst := some 99, op := Op.load 2 (Operand.tmp 98), type := 2, pos := "law.go:102", after := #[{ on := 52, ground := Ground.data }], guard := none }) (v := ?_) rfl (by as_aux_lemma => kernel_rfl) (by as_aux_lemma => kernel_rfl) (by as_aux_lemma => kernel_rfl) (fun _ _ _ h => h) (Or.inl ⟨by rfl, ?_⟩) (by assumption) ?_
                rotate_left
                · intro W hSW; (try dsimp only at hSW); go_simp; try with_reducible rfl
                try simp only [Act.put, List.setIfInBounds_toArray, List.set_cons_zero, List.set_cons_succ]
                refine wpAnyH_take (i := 54) (oi := { dst := some 100, op := Op.build 23 #[(0, Operand.const (Value.int IntKind.u8 2)), (1, Operand.tmp 95), (4, Operand.tmp 99)], type := 23, pos := "law.go:102", after := #[{ on := 49, ground := Ground.data }, { on := 53, ground := Ground.data }], guard := none }) (v := ?_) rfl (by as_aux_lemma => kernel_rfl) (by as_aux_lemma => kernel_rfl) (by as_aux_lemma => kernel_rfl) (fun _ _ _ h => h) (Or.inl ⟨by rfl, ?_⟩) (by assumption) ?_
                rotate_left
                · intro W hSW; (try dsimp only at hSW); go_simp; try with_reducible rfl
                try simp only [Act.put, List.setIfInBounds_toArray, List.set_cons_zero, List.set_cons_succ]
                refine wpAnyH_ready (rs := [11]) (by as_aux_lemma => kernel_rfl) (by simp) ?_
                refine AllReadyH.cons (o := { dst := some 57, op := Op.call { callee := Callee.value (Operand.func 6), args := #[Operand.tmp 49, Operand.tmp 56], argTypes := #[9, 2] }, type := 23, pos := "law.go:102", after := #[{ on := 3, ground := Ground.data }, { on := 10, ground := Ground.data }], guard := none }) rfl (fun K hK => ?_) AllReadyH.nil
                go_simp
                (go_at_call 6; (with_reducible refine (ofPoint_any si v2 _).mono ?_); rintro x y1 ⟨rfl, b1⟩; have DV := below_next D0 b1; clear b1)
                go_wp2_with fail
                refine hK.out _ _ ?_ (fun hHeld => ?_)
                · refine HCD.out _ ?_; (repeat' first | (with_reducible exact DV) | (with_reducible refine Below.alloc ?_ ?_ _) | exact DV.size | exact Nat.le_refl _ | (simp; done) | (have := DV.size; simp; omega) | (simp; omega))
                clear hK K
                try simp only [Act.put, List.setIfInBounds_toArray, List.set_cons_zero, List.set_cons_succ]
                refine wpAnyH_ready (rs := [23]) (by as_aux_lemma => kernel_rfl) (by simp) ?_
                refine AllReadyH.cons (o := { dst := some 69, op := Op.call { callee := Callee.value (Operand.func 7), args := #[Operand.tmp 61, Operand.tmp 68], argTypes := #[9, 9] }, type := 23, pos := "law.go:102", after := #[{ on := 15, ground := Ground.data }, { on := 22, ground := Ground.data }, { on := 11, ground := Ground.chain }], guard := none }) rfl (fun K hK => ?_) AllReadyH.nil
                go_simp
                (go_at_call 7; (with_reducible refine (ofRange_any si s3 _).mono ?_); rintro x y2 ⟨rfl, b2⟩; have DV := below_next DV b2; clear b2)
                go_wp2_with fail
                refine hK.out _ _ ?_ (fun hHeld => ?_)
                · refine HCD.out _ ?_; (repeat' first | (with_reducible exact DV) | (with_reducible refine Below.alloc ?_ ?_ _) | exact DV.size | exact Nat.le_refl _ | (simp; done) | (have := DV.size; simp; omega) | (simp; omega))
                clear hK K
                try simp only [Act.put, List.setIfInBounds_toArray, List.set_cons_zero, List.set_cons_succ]
                refine wpAnyH_ready (rs := [34]) (by as_aux_lemma => kernel_rfl) (by simp) ?_
                refine AllReadyH.cons (o := { dst := some 80, op := Op.call { callee := Callee.value (Operand.func 8), args := #[Operand.tmp 74, Operand.tmp 79], argTypes := #[2, 2] }, type := 23, pos := "law.go:102", after := #[{ on := 28, ground := Ground.data }, { on := 33, ground := Ground.data }, { on := 23, ground := Ground.chain }], guard := none }) rfl (fun K hK => ?_) AllReadyH.nil
                go_simp
                (go_at_call 8; (with_reducible refine (ofEnds_any v4 v5 _).mono ?_); rintro x y3 ⟨rfl, b3⟩; have DV := below_next DV b3; have DW := DV; clear b3)
                go_wp2_with fail
                refine hK.out _ _ ?_ (fun hHeld => ?_)
                · refine HCD.out _ ?_; (repeat' first | (with_reducible exact DV) | (with_reducible refine Below.alloc ?_ ?_ _) | exact DV.size | exact Nat.le_refl _ | (simp; done) | (have := DV.size; simp; omega) | (simp; omega))
                clear hK K
                try simp only [Act.put, List.setIfInBounds_toArray, List.set_cons_zero, List.set_cons_succ]
                refine wpAnyH_ready (rs := [55]) (by as_aux_lemma => kernel_rfl) (by simp) ?_
                refine AllReadyH.cons (o := { dst := some 101, op := Op.buildSlice 43 5 #[(0, Operand.tmp 57), (1, Operand.tmp 69), (2, Operand.tmp 80), (3, Operand.tmp 91), (4, Operand.tmp 100)], type := 43, pos := "law.go:102", after := #[{ on := 11, ground := Ground.data }, { on := 23, ground := Ground.data }, { on := 34, ground := Ground.data }, { on := 45, ground := Ground.data }, { on := 54, ground := Ground.data }], guard := none }) rfl (fun K hK => ?_) AllReadyH.nil
                go_simp
                skip
                go_wp2_with fail
                refine hK.out _ _ ?_ (fun hHeld => ?_)
                · refine HCD.out _ ?_; (repeat' first | (with_reducible exact DV) | (with_reducible refine Below.alloc ?_ ?_ _) | exact DV.size | exact Nat.le_refl _ | (simp; done) | (have := DV.size; simp; omega) | (simp; omega))
                clear hK K
                try simp only [Act.put, List.setIfInBounds_toArray, List.set_cons_zero, List.set_cons_succ]
                refine wpAnyH_take (i := 56) (oi := { dst := some 7, op := Op.assign (Operand.tmp 101), type := 43, pos := "law.go:102", after := #[{ on := 55, ground := Ground.data }, { on := 34, ground := Ground.chain }, { on := 0, ground := Ground.phase }, { on := 1, ground := Ground.phase }, { on := 2, ground := Ground.phase }, { on := 3, ground := Ground.phase }, { on := 4, ground := Ground.phase }, { on := 5, ground := Ground.phase }, { on := 6, ground := Ground.phase }, { on := 7, ground := Ground.phase }, { on := 8, ground := Ground.phase }, { on := 9, ground := Ground.phase }, { on := 10, ground := Ground.phase }, { on := 11, ground := Ground.phase }, { on := 12, ground := Ground.phase }, { on := 13, ground := Ground.phase }, { on := 14, ground := Ground.phase }, { on := 15, ground := Ground.phase }, { on := 16, ground := Ground.phase }, { on := 17, ground := Ground.phase }, { on := 18, ground := Ground.phase }, { on := 19, ground := Ground.phase }, { on := 20, ground := Ground.phase }, { on := 21, ground := Ground.phase }, { on := 22, ground := Ground.phase }, { on := 23, ground := Ground.phase }, { on := 24, ground := Ground.phase }, { on := 25, ground := Ground.phase }, { on := 26, ground := Ground.phase }, { on := 27, ground := Ground.phase }, { on := 28, ground := Ground.phase }, { on := 29, ground := Ground.phase }, { on := 30, ground := Ground.phase }, { on := 31, ground := Ground.phase }, { on := 32, ground := Ground.phase }, { on := 33, ground := Ground.phase }, { on := 34, ground := Ground.phase }, { on := 35, ground := Ground.phase }, { on := 36, ground := Ground.phase }, { on := 37, ground := Ground.phase }, { on := 38, ground := Ground.phase }, { on := 39, ground := Ground.phase }, { on := 40, ground := Ground.phase }, { on := 41, ground := Ground.phase }, { on := 42, ground := Ground.phase }, { on := 43, ground := Ground.phase }, { on := 44, ground := Ground.phase }, { on := 45, ground := Ground.phase }, { on := 46, ground := Ground.phase }, { on := 47, ground := Ground.phase }, { on := 48, ground := Ground.phase }, { on := 49, ground := Ground.phase }, { on := 50, ground := Ground.phase }, { on := 51, ground := Ground.phase }, { on := 52, ground := Ground.phase }, { on := 53, ground := Ground.phase }, { on := 54, ground := Ground.phase }, { on := 55, ground := Ground.phase }], guard := none }) (v := ?_) rfl (by as_aux_lemma => kernel_rfl) (by as_aux_lemma => kernel_rfl) (by as_aux_lemma => kernel_rfl) (fun _ _ _ h => h) (Or.inl ⟨by rfl, ?_⟩) (by assumption) ?_
                rotate_left
                · intro W hSW; (try dsimp only at hSW); go_simp; try with_reducible rfl
                try simp only [Act.put, List.setIfInBounds_toArray, List.set_cons_zero, List.set_cons_succ]
                refine wpAnyH_done (by as_aux_lemma => kernel_rfl) ?_ _
                go_wp2_with fail
                go_meet
                exact ⟨_, rfl, ((Held.start wc).step DW).new _ _⟩
              case rest =>
              obtain ⟨gl, rfl, hgl⟩ := hcut
              have HGL := Lib.hid hgl
              clear hgl
              obtain ⟨W13, rfl⟩ : ∃ v, v = wc := ⟨_, rfl⟩
              have H13 : Hid (Held wr W13 [(gl, 23, #[.int .u8 1, .string si, .string ⟨#[]⟩, .int .i64 v2, .int .i64 0, .int .u8 2, .string si, .string s3, .int .i64 0, .int .i64 0, .int .u8 3, .string ⟨#[]⟩, .string ⟨#[]⟩, .int .i64 v4, .int .i64 v5, .int .u8 (i : Int), .string sk, .string ⟨#[]⟩, .int .i64 vn, .int .i64 0, .int .u8 2, .string si, .string ⟨#[]⟩, .int .i64 0, .int .i64 vn]), (g, 33, #[.string sk, .int .i64 v1, .int .i64 vn])]) := Lib.hid ⟨(HG.out.step HGL.out.1).1, fun x hx => by
                rcases List.mem_cons.1 hx with rfl | hx
                · exact HGL.out.2 _ (List.mem_cons_self ..)
                · exact (HG.out.step HGL.out.1).2 x hx⟩
              have HW0 : Hid (Below w0.heap.size w0 W13) := Lib.hid (below_next HN.out.1 H13.out.1)
              have HX : Hid (∀ W, Below W13.heap.size W13 W → W.cell? ⟨w.heap.size, i, none⟩ = some (.string si) ∧ W.cell? ⟨g, 0, none⟩ = some (.string sk) ∧ W.cell? ⟨g, 1, none⟩ = some (.int .i64 v1) ∧ W.cell? ⟨g, 2, none⟩ = some (.int .i64 vn)) := Lib.hid fun W hW => by
                have h := (H13.out.step hW)
                have kp := h.2 _ (List.mem_cons_of_mem _ (List.mem_cons_self ..))
                exact ⟨(HCC.out _ h.1).1, kp.cell 0, kp.cell 1, kp.cell 2⟩
              have FA : Hid (∀ j, j < 5 → ∃ (fk : Nat) (fK fT : ByteArray) (fl fm : Int), (Fl.mk fk fK fT fl fm).ok ∧ ∀ W, Below W13.heap.size W13 W → W.cell? ⟨gl, j * 5, none⟩ = some (.int .u8 (fk : Int)) ∧ W.cell? ⟨gl, j * 5 + 1, none⟩ = some (.string fK) ∧ W.cell? ⟨gl, j * 5 + 2, none⟩ = some (.string fT) ∧ W.cell? ⟨gl, j * 5 + 3, none⟩ = some (.int .i64 fl) ∧ W.cell? ⟨gl, j * 5 + 4, none⟩ = some (.int .i64 fm)) := Lib.hid fun j hj => by
                have hz : i64ok 0 := by unfold i64ok; decide
                have hv := HV.out
                have hc := fun W (hW : Below W13.heap.size W13 W) => (H13.out.step hW).2 _ (List.mem_cons_self ..)
                rcases (by omega : j = 0 ∨ j = 1 ∨ j = 2 ∨ j = 3 ∨ j = 4) with rfl | rfl | rfl | rfl | rfl
                · exact ⟨1, si, ⟨#[]⟩, v2, 0, ⟨by show (1 : Nat) < 256; omega, hv.2.2.2.2.2.1, hz⟩, fun W hW => ⟨(hc W hW).cell 0, (hc W hW).cell 1, (hc W hW).cell 2, (hc W hW).cell 3, (hc W hW).cell 4⟩⟩
                · exact ⟨2, si, s3, 0, 0, ⟨by show (2 : Nat) < 256; omega, hz, hz⟩, fun W hW => ⟨(hc W hW).cell 5, (hc W hW).cell 6, (hc W hW).cell 7, (hc W hW).cell 8, (hc W hW).cell 9⟩⟩
                · exact ⟨3, ⟨#[]⟩, ⟨#[]⟩, v4, v5, ⟨by show (3 : Nat) < 256; omega, hv.2.2.2.2.2.2.1, hv.2.2.2.2.2.2.2⟩, fun W hW => ⟨(hc W hW).cell 10, (hc W hW).cell 11, (hc W hW).cell 12, (hc W hW).cell 13, (hc W hW).cell 14⟩⟩
                · exact ⟨i, sk, ⟨#[]⟩, vn, 0, ⟨by show i < 256; omega, hv.2.2.2.1, hz⟩, fun W hW => ⟨(hc W hW).cell 15, (hc W hW).cell 16, (hc W hW).cell 17, (hc W hW).cell 18, (hc W hW).cell 19⟩⟩
                · exact ⟨2, si, ⟨#[]⟩, 0, vn, ⟨by show (2 : Nat) < 256; omega, hz, hv.2.2.2.1⟩, fun W hW => ⟨(hc W hW).cell 20, (hc W hW).cell 21, (hc W hW).cell 22, (hc W hW).cell 23, (hc W hW).cell 24⟩⟩
              clear cv cv' D0
              go_wp2_with fail
              go_loopw [8] (fun i wr => ∃ j : Nat, j ≤ 5 ∧ i = .int .i64 (j : Int) ∧ Below W13.heap.size W13 wr) (fun i _ => 5 - (intOf i).toNat)
              case atStart => exact ⟨0, by omega, rfl, Below.refl _ _⟩
              case round =>
                obtain ⟨j, hj, rfl, hbj⟩ := hrel
                have HJ := Lib.hid hbj
                clear hbj
                by_cases hj5 : j < 5
                · obtain ⟨fk, fK, fT, fl, fm, hfo, hfc⟩ := FA.out j hj5
                  have HFO := Lib.hid hfo
                  have HSJ : Hid (∀ W, Below wr.heap.size wr W → (fun W => (W.cell? ⟨gl, j * 5, none⟩ = some (.int .u8 (fk : Int)) ∧ W.cell? ⟨gl, j * 5 + 1, none⟩ = some (.string fK) ∧ W.cell? ⟨gl, j * 5 + 2, none⟩ = some (.string fT) ∧ W.cell? ⟨gl, j * 5 + 3, none⟩ = some (.int .i64 fl) ∧ W.cell? ⟨gl, j * 5 + 4, none⟩ = some (.int .i64 fm)) ∧ W.cell? ⟨w.heap.size, i, none⟩ = some (.string si) ∧ W.cell? ⟨g, 0, none⟩ = some (.string sk) ∧ W.cell? ⟨g, 1, none⟩ = some (.int .i64 v1) ∧ W.cell? ⟨g, 2, none⟩ = some (.int .i64 vn)) W) := Lib.hid fun W hW => by
                    have hb := below_next HJ.out hW
                    exact ⟨hfc W hb, HX.out W hb⟩
                  have D0 : Below wr.heap.size wr wr.drew := (Below.refl _ _).drew
                  have j1 : (j : Int) < 5 := by omega
                  have j0 : (0 : Int) ≤ j := by omega
                  clear hfo hfc
                  go_upto_region 17 with (fail)
                  have hv := HV.out
                  have HB1 := Lib.hid (fun W => boundFits_any fk fK fT fl fm sk v1 vn W HFO.out hv.2.2.2.2.1 hv.2.2.2.1)
                  have HB2 := Lib.hid (fun W => primary_any sk v1 vn W (Nat.le_trans hv.2.1 (by omega)) hv.2.2.2.2.1 hv.2.2.2.1)
                  have HB3 := Lib.hid (fun (U : ByteArray) W => boundTells_any fk fK fT fl fm sk v1 vn U W HFO.out hv.2.2.2.2.1 hv.2.2.2.1)
                  have HB4 := Lib.hid (fun W => secondary_any sk v1 vn W (Nat.le_trans hv.2.1 (by omega)) hv.2.2.2.2.1 hv.2.2.2.1)
                  unfold paneV at HB2 HB4
                  obtain ⟨L5, hL5⟩ : ∃ L, [(⟨sk, v1, vn⟩ : Pn), ⟨si, 0, 5⟩, ⟨⟨#[97]⟩, 1, 5⟩, ⟨sk, v1, vn⟩, ⟨⟨#[98]⟩, 0, -1⟩] = L := ⟨_, rfl⟩
                  have hl5 : ∀ p ∈ L5, i64ok p.s ∧ i64ok p.e := by
                    intro p hp
                    rw [← hL5] at hp
                    simp only [List.mem_cons, List.not_mem_nil, or_false] at hp
                    rcases hp with rfl | rfl | rfl | rfl | rfl
                    · exact ⟨hv.2.2.2.2.1, hv.2.2.2.1⟩
                    · exact ⟨(by unfold i64ok; decide : i64ok (0)), (by unfold i64ok; decide : i64ok (5))⟩
                    · exact ⟨(by unfold i64ok; decide : i64ok (1)), (by unfold i64ok; decide : i64ok (5))⟩
                    · exact ⟨hv.2.2.2.2.1, hv.2.2.2.1⟩
                    · exact ⟨(by unfold i64ok; decide : i64ok (0)), (by unfold i64ok; decide : i64ok (-1))⟩
                  have HL5 := Lib.hid (And.intro hL5 hl5)
                  clear hv hL5 hl5
                  have DV := D0
                  by_cases hn0 : n = 0
                  · have n0 : ((n : Int) == 0) = true := by rw [beq_iff_eq]; omega
                    clear hn0
                    refine wp_region_held_drew (S := (fun W => (W.cell? ⟨gl, j * 5, none⟩ = some (.int .u8 (fk : Int)) ∧ W.cell? ⟨gl, j * 5 + 1, none⟩ = some (.string fK) ∧ W.cell? ⟨gl, j * 5 + 2, none⟩ = some (.string fT) ∧ W.cell? ⟨gl, j * 5 + 3, none⟩ = some (.int .i64 fl) ∧ W.cell? ⟨gl, j * 5 + 4, none⟩ = some (.int .i64 fm)) ∧ W.cell? ⟨w.heap.size, i, none⟩ = some (.string si) ∧ W.cell? ⟨g, 0, none⟩ = some (.string sk) ∧ W.cell? ⟨g, 1, none⟩ = some (.int .i64 v1) ∧ W.cell? ⟨g, 2, none⟩ = some (.int .i64 vn))) (by as_aux_lemma => kernel_rfl) (HSJ.out _ D0) (fun hHeld => ?_)
                    refine wpAnyH_take (i := 0) (oi := { dst := some 108, op := Op.move (Operand.tmp 7), type := 43, pos := "law.go:104", after := #[], guard := none }) (v := ?_) rfl (by as_aux_lemma => kernel_rfl) (by as_aux_lemma => kernel_rfl) (by as_aux_lemma => kernel_rfl) (fun _ _ _ h => h) (Or.inl ⟨by rfl, ?_⟩) (by assumption) ?_
                    rotate_left
                    · intro W hSW; (try dsimp only at hSW); go_simp; try with_reducible rfl
                    try simp only [Act.put, List.setIfInBounds_toArray, List.set_cons_zero, List.set_cons_succ]
                    refine wpAnyH_take (i := 1) (oi := { dst := some 109, op := Op.move (Operand.tmp 8), type := 3, pos := "law.go:104", after := #[], guard := none }) (v := ?_) rfl (by as_aux_lemma => kernel_rfl) (by as_aux_lemma => kernel_rfl) (by as_aux_lemma => kernel_rfl) (fun _ _ _ h => h) (Or.inl ⟨by rfl, ?_⟩) (by assumption) ?_
                    rotate_left
                    · intro W hSW; (try dsimp only at hSW); go_simp; try with_reducible rfl
                    try simp only [Act.put, List.setIfInBounds_toArray, List.set_cons_zero, List.set_cons_succ]
                    refine wpAnyH_take (i := 2) (oi := { dst := some 110, op := Op.indexAddr 43 (Operand.tmp 108) (Operand.tmp 109), type := 0, pos := "law.go:104", after := #[{ on := 0, ground := Ground.data }, { on := 1, ground := Ground.data }], guard := none }) (v := ?_) rfl (by as_aux_lemma => kernel_rfl) (by as_aux_lemma => kernel_rfl) (by as_aux_lemma => kernel_rfl) (fun _ _ _ h => h) (Or.inl ⟨by rfl, ?_⟩) (by assumption) ?_
                    rotate_left
                    · intro W hSW; (try dsimp only at hSW); go_simp; try with_reducible rfl
                    try simp only [Act.put, List.setIfInBounds_toArray, List.set_cons_zero, List.set_cons_succ]
                    refine wpAnyH_take (i := 3) (oi := { dst := some 111, op := Op.load 23 (Operand.tmp 110), type := 23, pos := "law.go:104", after := #[{ on := 2, ground := Ground.data }], guard := none }) (v := ?_) rfl (by as_aux_lemma => kernel_rfl) (by as_aux_lemma => kernel_rfl) (by as_aux_lemma => kernel_rfl) (fun _ _ _ h => h) (Or.inl ⟨by rfl, ?_⟩) (by assumption) ?_
                    rotate_left
                    · intro W hSW; (try dsimp only at hSW); go_simp; try with_reducible rfl
                    try simp only [Act.put, List.setIfInBounds_toArray, List.set_cons_zero, List.set_cons_succ]
                    refine wpAnyH_take (i := 4) (oi := { dst := some 112, op := Op.load 33 (Operand.tmp 6), type := 33, pos := "law.go:104", after := #[], guard := none }) (v := ?_) rfl (by as_aux_lemma => kernel_rfl) (by as_aux_lemma => kernel_rfl) (by as_aux_lemma => kernel_rfl) (fun _ _ _ h => h) (Or.inl ⟨by rfl, ?_⟩) (by assumption) ?_
                    rotate_left
                    · intro W hSW; (try dsimp only at hSW); go_simp; try with_reducible rfl
                    try simp only [Act.put, List.setIfInBounds_toArray, List.set_cons_zero, List.set_cons_succ]
                    refine wpAnyH_ready (rs := [5]) (by as_aux_lemma => kernel_rfl) (by simp) ?_
                    refine AllReadyH.cons (o := { dst := some 113, op := Op.call { callee := Callee.value (Operand.func 15), args := #[Operand.tmp 111, Operand.tmp 112], argTypes := #[23, 33] }, type := 4, pos := "law.go:104", after := #[{ on := 3, ground := Ground.data }, { on := 4, ground := Ground.data }], guard := none }) rfl (fun K hK => ?_) AllReadyH.nil
                    go_simp
                    (go_at_call 15; (refine (HB1.out _).mono ?_); rintro x u1 ⟨rfl, b1⟩; have DV := below_next D0 b1; clear b1)
                    go_wp2_with fail
                    refine hK.out _ _ ?_ (fun hHeld => ?_)
                    · refine HSJ.out _ ?_; (repeat' first | (with_reducible exact DV) | (with_reducible exact Below.refl _ _) | (with_reducible refine Below.drew ?_) | (with_reducible refine Below.alloc ?_ ?_ _) | exact DV.size | exact Nat.le_refl _ | (simp; done) | (have := DV.size; simp; omega) | (simp; omega))
                    clear hK K
                    try simp only [Act.put, List.setIfInBounds_toArray, List.set_cons_zero, List.set_cons_succ]
                    refine wpAnyH_take (i := 6) (oi := { dst := some 114, op := Op.unOp UnOp.not 4 (Operand.tmp 113), type := 4, pos := "law.go:104", after := #[{ on := 5, ground := Ground.data }], guard := none }) (v := ?_) rfl (by as_aux_lemma => kernel_rfl) (by as_aux_lemma => kernel_rfl) (by as_aux_lemma => kernel_rfl) (fun _ _ _ h => h) (Or.inl ⟨by rfl, ?_⟩) (by assumption) ?_
                    rotate_left
                    · intro W hSW; (try dsimp only at hSW); go_simp; try with_reducible rfl
                    try simp only [Act.put, List.setIfInBounds_toArray, List.set_cons_zero, List.set_cons_succ]
                    refine wpAnyH_take (i := 7) (oi := { dst := some 115, op := Op.move (Operand.tmp 114), type := 4, pos := "law.go:104", after := #[{ on := 6, ground := Ground.data }, { on := 5, ground := Ground.chain }], guard := none }) (v := ?_) rfl (by as_aux_lemma => kernel_rfl) (by as_aux_lemma => kernel_rfl) (by as_aux_lemma => kernel_rfl) (fun _ _ _ h => h) (Or.inl ⟨by rfl, ?_⟩) (by assumption) ?_
                    rotate_left
                    · intro W hSW; (try dsimp only at hSW); go_simp; try with_reducible rfl
                    try simp only [Act.put, List.setIfInBounds_toArray, List.set_cons_zero, List.set_cons_succ]
                    refine wpAnyH_take (i := 8) (oi := { dst := some 116, op := Op.move (Operand.tmp 7), type := 43, pos := "law.go:104", after := #[{ on := 7, ground := Ground.guard }], guard := some (7, false) }) (v := ?_) rfl (by as_aux_lemma => kernel_rfl) (by as_aux_lemma => kernel_rfl) (by as_aux_lemma => kernel_rfl) (fun _ _ _ h => h) (Or.inl ⟨by rfl, ?_⟩) (by assumption) ?_
                    rotate_left
                    · intro W hSW; (try dsimp only at hSW); go_simp; try with_reducible rfl
                    try simp only [Act.put, List.setIfInBounds_toArray, List.set_cons_zero, List.set_cons_succ]
                    refine wpAnyH_take (i := 9) (oi := { dst := some 117, op := Op.move (Operand.tmp 8), type := 3, pos := "law.go:104", after := #[{ on := 7, ground := Ground.guard }], guard := some (7, false) }) (v := ?_) rfl (by as_aux_lemma => kernel_rfl) (by as_aux_lemma => kernel_rfl) (by as_aux_lemma => kernel_rfl) (fun _ _ _ h => h) (Or.inl ⟨by rfl, ?_⟩) (by assumption) ?_
                    rotate_left
                    · intro W hSW; (try dsimp only at hSW); go_simp; try with_reducible rfl
                    try simp only [Act.put, List.setIfInBounds_toArray, List.set_cons_zero, List.set_cons_succ]
                    refine wpAnyH_take (i := 10) (oi := { dst := some 118, op := Op.indexAddr 43 (Operand.tmp 116) (Operand.tmp 117), type := 0, pos := "law.go:104", after := #[{ on := 8, ground := Ground.data }, { on := 9, ground := Ground.data }, { on := 7, ground := Ground.guard }], guard := some (7, false) }) (v := ?_) rfl (by as_aux_lemma => kernel_rfl) (by as_aux_lemma => kernel_rfl) (by as_aux_lemma => kernel_rfl) (fun _ _ _ h => h) (Or.inl ⟨by rfl, ?_⟩) (by assumption) ?_
                    rotate_left
                    · intro W hSW; (try dsimp only at hSW); go_simp; try with_reducible rfl
                    try simp only [Act.put, List.setIfInBounds_toArray, List.set_cons_zero, List.set_cons_succ]
                    refine wpAnyH_take (i := 11) (oi := { dst := some 119, op := Op.load 23 (Operand.tmp 118), type := 23, pos := "law.go:104", after := #[{ on := 10, ground := Ground.data }, { on := 7, ground := Ground.guard }], guard := some (7, false) }) (v := ?_) rfl (by as_aux_lemma => kernel_rfl) (by as_aux_lemma => kernel_rfl) (by as_aux_lemma => kernel_rfl) (fun _ _ _ h => h) (Or.inl ⟨by rfl, ?_⟩) (by assumption) ?_
                    rotate_left
                    · intro W hSW; (try dsimp only at hSW); go_simp; try with_reducible rfl
                    try simp only [Act.put, List.setIfInBounds_toArray, List.set_cons_zero, List.set_cons_succ]
                    refine wpAnyH_take (i := 12) (oi := { dst := some 120, op := Op.load 33 (Operand.tmp 6), type := 33, pos := "law.go:104", after := #[{ on := 7, ground := Ground.guard }], guard := some (7, false) }) (v := ?_) rfl (by as_aux_lemma => kernel_rfl) (by as_aux_lemma => kernel_rfl) (by as_aux_lemma => kernel_rfl) (fun _ _ _ h => h) (Or.inl ⟨by rfl, ?_⟩) (by assumption) ?_
                    rotate_left
                    · intro W hSW; (try dsimp only at hSW); go_simp; try with_reducible rfl
                    try simp only [Act.put, List.setIfInBounds_toArray, List.set_cons_zero, List.set_cons_succ]
                    refine wpAnyH_take (i := 13) (oi := { dst := some 121, op := Op.load 33 (Operand.tmp 6), type := 33, pos := "law.go:104", after := #[{ on := 7, ground := Ground.guard }], guard := some (7, false) }) (v := ?_) rfl (by as_aux_lemma => kernel_rfl) (by as_aux_lemma => kernel_rfl) (by as_aux_lemma => kernel_rfl) (fun _ _ _ h => h) (Or.inl ⟨by rfl, ?_⟩) (by assumption) ?_
                    rotate_left
                    · intro W hSW; (try dsimp only at hSW); go_simp; try with_reducible rfl
                    try simp only [Act.put, List.setIfInBounds_toArray, List.set_cons_zero, List.set_cons_succ]
                    refine wpAnyH_ready (rs := [14]) (by as_aux_lemma => kernel_rfl) (by simp) ?_
                    refine AllReadyH.cons (o := { dst := some 122, op := Op.call { callee := Callee.value (Operand.func 17), args := #[Operand.tmp 121], argTypes := #[33] }, type := 9, pos := "law.go:104", after := #[{ on := 13, ground := Ground.data }, { on := 7, ground := Ground.chain }, { on := 7, ground := Ground.guard }], guard := some (7, false) }) rfl (fun K hK => ?_) AllReadyH.nil
                    go_simp
                    (go_at_call 17; (refine (HB2.out _).mono ?_); rintro x u2 ⟨U, rfl, _, _, b2⟩; have DV := below_next DV b2; clear b2)
                    go_wp2_with fail
                    refine hK.out _ _ ?_ (fun hHeld => ?_)
                    · refine HSJ.out _ ?_; (repeat' first | (with_reducible exact DV) | (with_reducible exact Below.refl _ _) | (with_reducible refine Below.drew ?_) | (with_reducible refine Below.alloc ?_ ?_ _) | exact DV.size | exact Nat.le_refl _ | (simp; done) | (have := DV.size; simp; omega) | (simp; omega))
                    clear hK K
                    try simp only [Act.put, List.setIfInBounds_toArray, List.set_cons_zero, List.set_cons_succ]
                    refine wpAnyH_ready (rs := [15]) (by as_aux_lemma => kernel_rfl) (by simp) ?_
                    refine AllReadyH.cons (o := { dst := some 123, op := Op.call { callee := Callee.value (Operand.func 16), args := #[Operand.tmp 119, Operand.tmp 120, Operand.tmp 122], argTypes := #[23, 33, 9] }, type := 4, pos := "law.go:104", after := #[{ on := 11, ground := Ground.data }, { on := 12, ground := Ground.data }, { on := 14, ground := Ground.data }, { on := 14, ground := Ground.chain }, { on := 7, ground := Ground.guard }], guard := some (7, false) }) rfl (fun K hK => ?_) AllReadyH.nil
                    go_simp
                    (go_at_call 16; (refine (HB3.out U _).mono ?_); rintro x u3 ⟨rfl, b3⟩; have DV := below_next DV b3; clear b3)
                    go_wp2_with fail
                    refine hK.out _ _ ?_ (fun hHeld => ?_)
                    · refine HSJ.out _ ?_; (repeat' first | (with_reducible exact DV) | (with_reducible exact Below.refl _ _) | (with_reducible refine Below.drew ?_) | (with_reducible refine Below.alloc ?_ ?_ _) | exact DV.size | exact Nat.le_refl _ | (simp; done) | (have := DV.size; simp; omega) | (simp; omega))
                    clear hK K
                    try simp only [Act.put, List.setIfInBounds_toArray, List.set_cons_zero, List.set_cons_succ]
                    refine wpAnyH_take (i := 16) (oi := { dst := some 124, op := Op.unOp UnOp.not 4 (Operand.tmp 123), type := 4, pos := "law.go:104", after := #[{ on := 15, ground := Ground.data }, { on := 7, ground := Ground.guard }], guard := some (7, false) }) (v := ?_) rfl (by as_aux_lemma => kernel_rfl) (by as_aux_lemma => kernel_rfl) (by as_aux_lemma => kernel_rfl) (fun _ _ _ h => h) (Or.inl ⟨by rfl, ?_⟩) (by assumption) ?_
                    rotate_left
                    · intro W hSW; (try dsimp only at hSW); go_simp; try with_reducible rfl
                    try simp only [Act.put, List.setIfInBounds_toArray, List.set_cons_zero, List.set_cons_succ]
                    refine wpAnyH_take (i := 17) (oi := { dst := some 125, op := Op.pick (Operand.tmp 115) (Operand.const (Value.bool true)) (Operand.tmp 124), type := 4, pos := "law.go:104", after := #[{ on := 7, ground := Ground.data }, { on := 16, ground := Ground.data }], guard := none }) (v := ?_) rfl (by as_aux_lemma => kernel_rfl) (by as_aux_lemma => kernel_rfl) (by as_aux_lemma => kernel_rfl) (fun _ _ _ h => h) (Or.inl ⟨by rfl, ?_⟩) (by assumption) ?_
                    rotate_left
                    · intro W hSW; (try dsimp only at hSW); go_simp; try with_reducible rfl
                    try simp only [Act.put, List.setIfInBounds_toArray, List.set_cons_zero, List.set_cons_succ]
                    refine wpAnyH_take (i := 18) (oi := { dst := some 126, op := Op.move (Operand.tmp 125), type := 4, pos := "law.go:104", after := #[{ on := 17, ground := Ground.data }, { on := 15, ground := Ground.chain }], guard := none }) (v := ?_) rfl (by as_aux_lemma => kernel_rfl) (by as_aux_lemma => kernel_rfl) (by as_aux_lemma => kernel_rfl) (fun _ _ _ h => h) (Or.inl ⟨by rfl, ?_⟩) (by assumption) ?_
                    rotate_left
                    · intro W hSW; (try dsimp only at hSW); go_simp; try with_reducible rfl
                    try simp only [Act.put, List.setIfInBounds_toArray, List.set_cons_zero, List.set_cons_succ]
                    refine wpAnyH_take (i := 19) (oi := { dst := some 127, op := Op.move (Operand.tmp 7), type := 43, pos := "law.go:104", after := #[{ on := 18, ground := Ground.guard }], guard := some (18, false) }) (v := ?_) rfl (by as_aux_lemma => kernel_rfl) (by as_aux_lemma => kernel_rfl) (by as_aux_lemma => kernel_rfl) (fun _ _ _ h => h) (Or.inl ⟨by rfl, ?_⟩) (by assumption) ?_
                    rotate_left
                    · intro W hSW; (try dsimp only at hSW); go_simp; try with_reducible rfl
                    try simp only [Act.put, List.setIfInBounds_toArray, List.set_cons_zero, List.set_cons_succ]
                    refine wpAnyH_take (i := 20) (oi := { dst := some 128, op := Op.move (Operand.tmp 8), type := 3, pos := "law.go:104", after := #[{ on := 18, ground := Ground.guard }], guard := some (18, false) }) (v := ?_) rfl (by as_aux_lemma => kernel_rfl) (by as_aux_lemma => kernel_rfl) (by as_aux_lemma => kernel_rfl) (fun _ _ _ h => h) (Or.inl ⟨by rfl, ?_⟩) (by assumption) ?_
                    rotate_left
                    · intro W hSW; (try dsimp only at hSW); go_simp; try with_reducible rfl
                    try simp only [Act.put, List.setIfInBounds_toArray, List.set_cons_zero, List.set_cons_succ]
                    refine wpAnyH_take (i := 21) (oi := { dst := some 129, op := Op.indexAddr 43 (Operand.tmp 127) (Operand.tmp 128), type := 0, pos := "law.go:104", after := #[{ on := 19, ground := Ground.data }, { on := 20, ground := Ground.data }, { on := 18, ground := Ground.guard }], guard := some (18, false) }) (v := ?_) rfl (by as_aux_lemma => kernel_rfl) (by as_aux_lemma => kernel_rfl) (by as_aux_lemma => kernel_rfl) (fun _ _ _ h => h) (Or.inl ⟨by rfl, ?_⟩) (by assumption) ?_
                    rotate_left
                    · intro W hSW; (try dsimp only at hSW); go_simp; try with_reducible rfl
                    try simp only [Act.put, List.setIfInBounds_toArray, List.set_cons_zero, List.set_cons_succ]
                    refine wpAnyH_take (i := 22) (oi := { dst := some 130, op := Op.load 23 (Operand.tmp 129), type := 23, pos := "law.go:104", after := #[{ on := 21, ground := Ground.data }, { on := 18, ground := Ground.guard }], guard := some (18, false) }) (v := ?_) rfl (by as_aux_lemma => kernel_rfl) (by as_aux_lemma => kernel_rfl) (by as_aux_lemma => kernel_rfl) (fun _ _ _ h => h) (Or.inl ⟨by rfl, ?_⟩) (by assumption) ?_
                    rotate_left
                    · intro W hSW; (try dsimp only at hSW); go_simp; try with_reducible rfl
                    try simp only [Act.put, List.setIfInBounds_toArray, List.set_cons_zero, List.set_cons_succ]
                    refine wpAnyH_take (i := 23) (oi := { dst := some 131, op := Op.load 33 (Operand.tmp 6), type := 33, pos := "law.go:104", after := #[{ on := 18, ground := Ground.guard }], guard := some (18, false) }) (v := ?_) rfl (by as_aux_lemma => kernel_rfl) (by as_aux_lemma => kernel_rfl) (by as_aux_lemma => kernel_rfl) (fun _ _ _ h => h) (Or.inl ⟨by rfl, ?_⟩) (by assumption) ?_
                    rotate_left
                    · intro W hSW; (try dsimp only at hSW); go_simp; try with_reducible rfl
                    try simp only [Act.put, List.setIfInBounds_toArray, List.set_cons_zero, List.set_cons_succ]
                    refine wpAnyH_take (i := 24) (oi := { dst := some 132, op := Op.load 33 (Operand.tmp 6), type := 33, pos := "law.go:104", after := #[{ on := 18, ground := Ground.guard }], guard := some (18, false) }) (v := ?_) rfl (by as_aux_lemma => kernel_rfl) (by as_aux_lemma => kernel_rfl) (by as_aux_lemma => kernel_rfl) (fun _ _ _ h => h) (Or.inl ⟨by rfl, ?_⟩) (by assumption) ?_
                    rotate_left
                    · intro W hSW; (try dsimp only at hSW); go_simp; try with_reducible rfl
                    try simp only [Act.put, List.setIfInBounds_toArray, List.set_cons_zero, List.set_cons_succ]
                    refine wpAnyH_ready (rs := [25]) (by as_aux_lemma => kernel_rfl) (by simp) ?_
                    refine AllReadyH.cons (o := { dst := some 133, op := Op.call { callee := Callee.value (Operand.func 18), args := #[Operand.tmp 132], argTypes := #[33] }, type := 9, pos := "law.go:104", after := #[{ on := 24, ground := Ground.data }, { on := 18, ground := Ground.chain }, { on := 18, ground := Ground.guard }], guard := some (18, false) }) rfl (fun K hK => ?_) AllReadyH.nil
                    go_simp
                    (go_at_call 18; (refine (HB4.out _).mono ?_); rintro x u4 ⟨U2, rfl, _, _, b4⟩; have DV := below_next DV b4; clear b4)
                    go_wp2_with fail
                    refine hK.out _ _ ?_ (fun hHeld => ?_)
                    · refine HSJ.out _ ?_; (repeat' first | (with_reducible exact DV) | (with_reducible exact Below.refl _ _) | (with_reducible refine Below.drew ?_) | (with_reducible refine Below.alloc ?_ ?_ _) | exact DV.size | exact Nat.le_refl _ | (simp; done) | (have := DV.size; simp; omega) | (simp; omega))
                    clear hK K
                    try simp only [Act.put, List.setIfInBounds_toArray, List.set_cons_zero, List.set_cons_succ]
                    refine wpAnyH_ready (rs := [26]) (by as_aux_lemma => kernel_rfl) (by simp) ?_
                    refine AllReadyH.cons (o := { dst := some 134, op := Op.call { callee := Callee.value (Operand.func 16), args := #[Operand.tmp 130, Operand.tmp 131, Operand.tmp 133], argTypes := #[23, 33, 9] }, type := 4, pos := "law.go:104", after := #[{ on := 22, ground := Ground.data }, { on := 23, ground := Ground.data }, { on := 25, ground := Ground.data }, { on := 25, ground := Ground.chain }, { on := 18, ground := Ground.guard }], guard := some (18, false) }) rfl (fun K hK => ?_) AllReadyH.nil
                    go_simp
                    (go_at_call 16; (refine (HB3.out U2 _).mono ?_); rintro x u5 ⟨rfl, b5⟩; have DV := below_next DV b5; clear b5)
                    go_wp2_with fail
                    refine hK.out _ _ ?_ (fun hHeld => ?_)
                    · refine HSJ.out _ ?_; (repeat' first | (with_reducible exact DV) | (with_reducible exact Below.refl _ _) | (with_reducible refine Below.drew ?_) | (with_reducible refine Below.alloc ?_ ?_ _) | exact DV.size | exact Nat.le_refl _ | (simp; done) | (have := DV.size; simp; omega) | (simp; omega))
                    clear hK K
                    try simp only [Act.put, List.setIfInBounds_toArray, List.set_cons_zero, List.set_cons_succ]
                    refine wpAnyH_take (i := 27) (oi := { dst := some 135, op := Op.unOp UnOp.not 4 (Operand.tmp 134), type := 4, pos := "law.go:104", after := #[{ on := 26, ground := Ground.data }, { on := 18, ground := Ground.guard }], guard := some (18, false) }) (v := ?_) rfl (by as_aux_lemma => kernel_rfl) (by as_aux_lemma => kernel_rfl) (by as_aux_lemma => kernel_rfl) (fun _ _ _ h => h) (Or.inl ⟨by rfl, ?_⟩) (by assumption) ?_
                    rotate_left
                    · intro W hSW; (try dsimp only at hSW); go_simp; try with_reducible rfl
                    try simp only [Act.put, List.setIfInBounds_toArray, List.set_cons_zero, List.set_cons_succ]
                    refine wpAnyH_take (i := 28) (oi := { dst := some 136, op := Op.pick (Operand.tmp 126) (Operand.const (Value.bool true)) (Operand.tmp 135), type := 4, pos := "law.go:104", after := #[{ on := 18, ground := Ground.data }, { on := 27, ground := Ground.data }], guard := none }) (v := ?_) rfl (by as_aux_lemma => kernel_rfl) (by as_aux_lemma => kernel_rfl) (by as_aux_lemma => kernel_rfl) (fun _ _ _ h => h) (Or.inl ⟨by rfl, ?_⟩) (by assumption) ?_
                    rotate_left
                    · intro W hSW; (try dsimp only at hSW); go_simp; try with_reducible rfl
                    try simp only [Act.put, List.setIfInBounds_toArray, List.set_cons_zero, List.set_cons_succ]
                    refine wpAnyH_take (i := 29) (oi := { dst := some 137, op := Op.move (Operand.tmp 136), type := 4, pos := "law.go:104", after := #[{ on := 28, ground := Ground.data }, { on := 26, ground := Ground.chain }], guard := none }) (v := ?_) rfl (by as_aux_lemma => kernel_rfl) (by as_aux_lemma => kernel_rfl) (by as_aux_lemma => kernel_rfl) (fun _ _ _ h => h) (Or.inl ⟨by rfl, ?_⟩) (by assumption) ?_
                    rotate_left
                    · intro W hSW; (try dsimp only at hSW); go_simp; try with_reducible rfl
                    try simp only [Act.put, List.setIfInBounds_toArray, List.set_cons_zero, List.set_cons_succ]
                    refine wpAnyH_take (i := 30) (oi := { dst := some 138, op := Op.move (Operand.tmp 5), type := 3, pos := "law.go:104", after := #[{ on := 29, ground := Ground.guard }], guard := some (29, false) }) (v := ?_) rfl (by as_aux_lemma => kernel_rfl) (by as_aux_lemma => kernel_rfl) (by as_aux_lemma => kernel_rfl) (fun _ _ _ h => h) (Or.inl ⟨by rfl, ?_⟩) (by assumption) ?_
                    rotate_left
                    · intro W hSW; (try dsimp only at hSW); go_simp; try with_reducible rfl
                    try simp only [Act.put, List.setIfInBounds_toArray, List.set_cons_zero, List.set_cons_succ]
                    refine wpAnyH_take (i := 31) (oi := { dst := some 139, op := Op.binOp BinOp.eql 3 (Operand.tmp 138) (Operand.const (Value.int IntKind.i64 0)) 3, type := 4, pos := "law.go:104", after := #[{ on := 30, ground := Ground.data }, { on := 29, ground := Ground.guard }], guard := some (29, false) }) (v := ?_) rfl (by as_aux_lemma => kernel_rfl) (by as_aux_lemma => kernel_rfl) (by as_aux_lemma => kernel_rfl) (fun _ _ _ h => h) (Or.inl ⟨by rfl, ?_⟩) (by assumption) ?_
                    rotate_left
                    · intro W hSW; (try dsimp only at hSW); go_simp; try with_reducible rfl
                    try simp only [Act.put, List.setIfInBounds_toArray, List.set_cons_zero, List.set_cons_succ]
                    refine wpAnyH_take (i := 32) (oi := { dst := some 140, op := Op.move (Operand.tmp 139), type := 4, pos := "law.go:104", after := #[{ on := 31, ground := Ground.data }, { on := 29, ground := Ground.chain }, { on := 29, ground := Ground.guard }], guard := some (29, false) }) (v := ?_) rfl (by as_aux_lemma => kernel_rfl) (by as_aux_lemma => kernel_rfl) (by as_aux_lemma => kernel_rfl) (fun _ _ _ h => h) (Or.inl ⟨by rfl, ?_⟩) (by assumption) ?_
                    rotate_left
                    · intro W hSW; (try dsimp only at hSW); go_simp; try with_reducible rfl
                    try simp only [Act.put, List.setIfInBounds_toArray, List.set_cons_zero, List.set_cons_succ]
                    refine wpAnyH_take (i := 33) (oi := { dst := some 141, op := Op.move (Operand.tmp 7), type := 43, pos := "law.go:104", after := #[{ on := 32, ground := Ground.guard }], guard := some (32, true) }) (v := ?_) rfl (by as_aux_lemma => kernel_rfl) (by as_aux_lemma => kernel_rfl) (by as_aux_lemma => kernel_rfl) (fun _ _ _ h => h) (Or.inl ⟨by rfl, ?_⟩) (by assumption) ?_
                    rotate_left
                    · intro W hSW; (try dsimp only at hSW); go_simp; try with_reducible rfl
                    try simp only [Act.put, List.setIfInBounds_toArray, List.set_cons_zero, List.set_cons_succ]
                    refine wpAnyH_take (i := 34) (oi := { dst := some 142, op := Op.move (Operand.tmp 8), type := 3, pos := "law.go:104", after := #[{ on := 32, ground := Ground.guard }], guard := some (32, true) }) (v := ?_) rfl (by as_aux_lemma => kernel_rfl) (by as_aux_lemma => kernel_rfl) (by as_aux_lemma => kernel_rfl) (fun _ _ _ h => h) (Or.inl ⟨by rfl, ?_⟩) (by assumption) ?_
                    rotate_left
                    · intro W hSW; (try dsimp only at hSW); go_simp; try with_reducible rfl
                    try simp only [Act.put, List.setIfInBounds_toArray, List.set_cons_zero, List.set_cons_succ]
                    refine wpAnyH_take (i := 35) (oi := { dst := some 143, op := Op.indexAddr 43 (Operand.tmp 141) (Operand.tmp 142), type := 0, pos := "law.go:104", after := #[{ on := 33, ground := Ground.data }, { on := 34, ground := Ground.data }, { on := 32, ground := Ground.guard }], guard := some (32, true) }) (v := ?_) rfl (by as_aux_lemma => kernel_rfl) (by as_aux_lemma => kernel_rfl) (by as_aux_lemma => kernel_rfl) (fun _ _ _ h => h) (Or.inl ⟨by rfl, ?_⟩) (by assumption) ?_
                    rotate_left
                    · intro W hSW; (try dsimp only at hSW); go_simp; try with_reducible rfl
                    try simp only [Act.put, List.setIfInBounds_toArray, List.set_cons_zero, List.set_cons_succ]
                    refine wpAnyH_take (i := 36) (oi := { dst := some 144, op := Op.load 23 (Operand.tmp 143), type := 23, pos := "law.go:104", after := #[{ on := 35, ground := Ground.data }, { on := 32, ground := Ground.guard }], guard := some (32, true) }) (v := ?_) rfl (by as_aux_lemma => kernel_rfl) (by as_aux_lemma => kernel_rfl) (by as_aux_lemma => kernel_rfl) (fun _ _ _ h => h) (Or.inl ⟨by rfl, ?_⟩) (by assumption) ?_
                    rotate_left
                    · intro W hSW; (try dsimp only at hSW); go_simp; try with_reducible rfl
                    try simp only [Act.put, List.setIfInBounds_toArray, List.set_cons_zero, List.set_cons_succ]
                    refine wpAnyH_take (i := 37) (oi := { dst := some 145, op := Op.load 33 (Operand.tmp 6), type := 33, pos := "law.go:104", after := #[{ on := 32, ground := Ground.guard }], guard := some (32, true) }) (v := ?_) rfl (by as_aux_lemma => kernel_rfl) (by as_aux_lemma => kernel_rfl) (by as_aux_lemma => kernel_rfl) (fun _ _ _ h => h) (Or.inl ⟨by rfl, ?_⟩) (by assumption) ?_
                    rotate_left
                    · intro W hSW; (try dsimp only at hSW); go_simp; try with_reducible rfl
                    try simp only [Act.put, List.setIfInBounds_toArray, List.set_cons_zero, List.set_cons_succ]
                    refine wpAnyH_take (i := 38) (oi := { dst := some 146, op := Op.move (Operand.tmp 1), type := 41, pos := "law.go:104", after := #[{ on := 32, ground := Ground.guard }], guard := some (32, true) }) (v := ?_) rfl (by as_aux_lemma => kernel_rfl) (by as_aux_lemma => kernel_rfl) (by as_aux_lemma => kernel_rfl) (fun _ _ _ h => h) (Or.inl ⟨by rfl, ?_⟩) (by assumption) ?_
                    rotate_left
                    · intro W hSW; (try dsimp only at hSW); go_simp; try with_reducible rfl
                    try simp only [Act.put, List.setIfInBounds_toArray, List.set_cons_zero, List.set_cons_succ]
                    refine wpAnyH_take (i := 39) (oi := { dst := some 147, op := Op.move (Operand.tmp 3), type := 3, pos := "law.go:104", after := #[{ on := 32, ground := Ground.guard }], guard := some (32, true) }) (v := ?_) rfl (by as_aux_lemma => kernel_rfl) (by as_aux_lemma => kernel_rfl) (by as_aux_lemma => kernel_rfl) (fun _ _ _ h => h) (Or.inl ⟨by rfl, ?_⟩) (by assumption) ?_
                    rotate_left
                    · intro W hSW; (try dsimp only at hSW); go_simp; try with_reducible rfl
                    try simp only [Act.put, List.setIfInBounds_toArray, List.set_cons_zero, List.set_cons_succ]
                    refine wpAnyH_take (i := 40) (oi := { dst := some 148, op := Op.indexAddr 41 (Operand.tmp 146) (Operand.tmp 147), type := 0, pos := "law.go:104", after := #[{ on := 38, ground := Ground.data }, { on := 39, ground := Ground.data }, { on := 32, ground := Ground.guard }], guard := some (32, true) }) (v := ?_) rfl (by as_aux_lemma => kernel_rfl) (by as_aux_lemma => kernel_rfl) (by as_aux_lemma => kernel_rfl) (fun _ _ _ h => h) (Or.inl ⟨by rfl, ?_⟩) (by assumption) ?_
                    rotate_left
                    · intro W hSW; (try dsimp only at hSW); go_simp; try with_reducible rfl
                    try simp only [Act.put, List.setIfInBounds_toArray, List.set_cons_zero, List.set_cons_succ]
                    refine wpAnyH_take (i := 41) (oi := { dst := some 149, op := Op.load 9 (Operand.tmp 148), type := 9, pos := "law.go:104", after := #[{ on := 40, ground := Ground.data }, { on := 32, ground := Ground.guard }], guard := some (32, true) }) (v := ?_) rfl (by as_aux_lemma => kernel_rfl) (by as_aux_lemma => kernel_rfl) (by as_aux_lemma => kernel_rfl) (fun _ _ _ h => h) (Or.inl ⟨by rfl, ?_⟩) (by assumption) ?_
                    rotate_left
                    · intro W hSW; (try dsimp only at hSW); go_simp; try with_reducible rfl
                    try simp only [Act.put, List.setIfInBounds_toArray, List.set_cons_zero, List.set_cons_succ]
                    refine wpAnyH_take (i := 42) (oi := { dst := some 150, op := Op.build 33 #[(0, Operand.tmp 149), (2, Operand.const (Value.int IntKind.i64 5))], type := 33, pos := "law.go:104", after := #[{ on := 41, ground := Ground.data }, { on := 32, ground := Ground.guard }], guard := some (32, true) }) (v := ?_) rfl (by as_aux_lemma => kernel_rfl) (by as_aux_lemma => kernel_rfl) (by as_aux_lemma => kernel_rfl) (fun _ _ _ h => h) (Or.inl ⟨by rfl, ?_⟩) (by assumption) ?_
                    rotate_left
                    · intro W hSW; (try dsimp only at hSW); go_simp; try with_reducible rfl
                    try simp only [Act.put, List.setIfInBounds_toArray, List.set_cons_zero, List.set_cons_succ]
                    refine wpAnyH_take (i := 43) (oi := { dst := some 151, op := Op.build 33 #[(0, Operand.const (Value.string { data := #[97] })), (1, Operand.const (Value.int IntKind.i64 1)), (2, Operand.const (Value.int IntKind.i64 5))], type := 33, pos := "law.go:104", after := #[{ on := 32, ground := Ground.guard }], guard := some (32, true) }) (v := ?_) rfl (by as_aux_lemma => kernel_rfl) (by as_aux_lemma => kernel_rfl) (by as_aux_lemma => kernel_rfl) (fun _ _ _ h => h) (Or.inl ⟨by rfl, ?_⟩) (by assumption) ?_
                    rotate_left
                    · intro W hSW; (try dsimp only at hSW); go_simp; try with_reducible rfl
                    try simp only [Act.put, List.setIfInBounds_toArray, List.set_cons_zero, List.set_cons_succ]
                    refine wpAnyH_take (i := 44) (oi := { dst := some 152, op := Op.load 33 (Operand.tmp 6), type := 33, pos := "law.go:104", after := #[{ on := 32, ground := Ground.guard }], guard := some (32, true) }) (v := ?_) rfl (by as_aux_lemma => kernel_rfl) (by as_aux_lemma => kernel_rfl) (by as_aux_lemma => kernel_rfl) (fun _ _ _ h => h) (Or.inl ⟨by rfl, ?_⟩) (by assumption) ?_
                    rotate_left
                    · intro W hSW; (try dsimp only at hSW); go_simp; try with_reducible rfl
                    try simp only [Act.put, List.setIfInBounds_toArray, List.set_cons_zero, List.set_cons_succ]
                    refine wpAnyH_take (i := 45) (oi := { dst := some 153, op := Op.build 33 #[(0, Operand.const (Value.string { data := #[98] })), (2, Operand.const (Value.int IntKind.i64 (-1)))], type := 33, pos := "law.go:104", after := #[{ on := 32, ground := Ground.guard }], guard := some (32, true) }) (v := ?_) rfl (by as_aux_lemma => kernel_rfl) (by as_aux_lemma => kernel_rfl) (by as_aux_lemma => kernel_rfl) (fun _ _ _ h => h) (Or.inl ⟨by rfl, ?_⟩) (by assumption) ?_
                    rotate_left
                    · intro W hSW; (try dsimp only at hSW); go_simp; try with_reducible rfl
                    try simp only [Act.put, List.setIfInBounds_toArray, List.set_cons_zero, List.set_cons_succ]
                    refine wpAnyH_ready (rs := [46]) (by as_aux_lemma => kernel_rfl) (by simp) ?_
                    refine AllReadyH.cons (o := { dst := some 154, op := Op.buildSlice 29 5 #[(0, Operand.tmp 145), (1, Operand.tmp 150), (2, Operand.tmp 151), (3, Operand.tmp 152), (4, Operand.tmp 153)], type := 29, pos := "law.go:104", after := #[{ on := 37, ground := Ground.data }, { on := 42, ground := Ground.data }, { on := 43, ground := Ground.data }, { on := 44, ground := Ground.data }, { on := 45, ground := Ground.data }, { on := 32, ground := Ground.guard }], guard := some (32, true) }) rfl (fun K hK => ?_) AllReadyH.nil
                    go_simp
                    skip
                    go_wp2_with fail
                    refine hK.out _ _ ?_ (fun hHeld => ?_)
                    · refine HSJ.out _ ?_; (repeat' first | (with_reducible exact DV) | (with_reducible exact Below.refl _ _) | (with_reducible refine Below.drew ?_) | (with_reducible refine Below.alloc ?_ ?_ _) | exact DV.size | exact Nat.le_refl _ | (simp; done) | (have := DV.size; simp; omega) | (simp; omega))
                    clear hK K
                    try simp only [Act.put, List.setIfInBounds_toArray, List.set_cons_zero, List.set_cons_succ]
                    refine wpAnyH_ready (rs := [47]) (by as_aux_lemma => kernel_rfl) (by simp) ?_
                    refine AllReadyH.cons (o := { dst := some 155, op := Op.call { callee := Callee.value (Operand.func 4), args := #[Operand.tmp 144, Operand.tmp 154], argTypes := #[23, 29] }, type := 4, pos := "law.go:104", after := #[{ on := 36, ground := Ground.data }, { on := 46, ground := Ground.data }, { on := 32, ground := Ground.chain }, { on := 32, ground := Ground.guard }], guard := some (32, true) }) rfl (fun K hK => ?_) AllReadyH.nil
                    go_simp
                    (go_at_call 4; (refine (boundSorts_any fk fK fT fl fm 5 5 _ _ L5 _ (pans_lit u5 33 L5 5 _ (by rw [← HL5.out.1]; rfl) (by rw [← HL5.out.1]; rfl)) HL5.out.2 (Nat.le_refl _)).mono ?_); rintro x u6 ⟨rfl, b6⟩; have DV := below_next (DV.alloc DV.size _) b6; clear b6)
                    go_wp2_with fail
                    refine hK.out _ _ ?_ (fun hHeld => ?_)
                    · refine HSJ.out _ ?_; (repeat' first | (with_reducible exact DV) | (with_reducible exact Below.refl _ _) | (with_reducible refine Below.drew ?_) | (with_reducible refine Below.alloc ?_ ?_ _) | exact DV.size | exact Nat.le_refl _ | (simp; done) | (have := DV.size; simp; omega) | (simp; omega))
                    clear hK K
                    try simp only [Act.put, List.setIfInBounds_toArray, List.set_cons_zero, List.set_cons_succ]
                    refine wpAnyH_take (i := 48) (oi := { dst := some 156, op := Op.unOp UnOp.not 4 (Operand.tmp 155), type := 4, pos := "law.go:104", after := #[{ on := 47, ground := Ground.data }, { on := 32, ground := Ground.guard }], guard := some (32, true) }) (v := ?_) rfl (by as_aux_lemma => kernel_rfl) (by as_aux_lemma => kernel_rfl) (by as_aux_lemma => kernel_rfl) (fun _ _ _ h => h) (Or.inl ⟨by rfl, ?_⟩) (by assumption) ?_
                    rotate_left
                    · intro W hSW; (try dsimp only at hSW); go_simp; try with_reducible rfl
                    try simp only [Act.put, List.setIfInBounds_toArray, List.set_cons_zero, List.set_cons_succ]
                    refine wpAnyH_take (i := 49) (oi := { dst := some 157, op := Op.pick (Operand.tmp 140) (Operand.tmp 156) (Operand.const (Value.bool false)), type := 4, pos := "law.go:104", after := #[{ on := 32, ground := Ground.data }, { on := 48, ground := Ground.data }, { on := 29, ground := Ground.guard }], guard := some (29, false) }) (v := ?_) rfl (by as_aux_lemma => kernel_rfl) (by as_aux_lemma => kernel_rfl) (by as_aux_lemma => kernel_rfl) (fun _ _ _ h => h) (Or.inl ⟨by rfl, ?_⟩) (by assumption) ?_
                    rotate_left
                    · intro W hSW; (try dsimp only at hSW); go_simp; try with_reducible rfl
                    try simp only [Act.put, List.setIfInBounds_toArray, List.set_cons_zero, List.set_cons_succ]
                    refine wpAnyH_take (i := 50) (oi := { dst := some 158, op := Op.pick (Operand.tmp 137) (Operand.const (Value.bool true)) (Operand.tmp 157), type := 4, pos := "law.go:104", after := #[{ on := 29, ground := Ground.data }, { on := 49, ground := Ground.data }], guard := none }) (v := ?_) rfl (by as_aux_lemma => kernel_rfl) (by as_aux_lemma => kernel_rfl) (by as_aux_lemma => kernel_rfl) (fun _ _ _ h => h) (Or.inl ⟨by rfl, ?_⟩) (by assumption) ?_
                    rotate_left
                    · intro W hSW; (try dsimp only at hSW); go_simp; try with_reducible rfl
                    try simp only [Act.put, List.setIfInBounds_toArray, List.set_cons_zero, List.set_cons_succ]
                    refine wpAnyH_done (by as_aux_lemma => kernel_rfl) ?_ _
                    go_wp2_with fail
                    exact ⟨⟨j + 1, by omega, by go_num, below_next HJ.out DV⟩, by simp [intOf]; omega⟩
                  · have n0 : ((n : Int) == 0) = false := by rw [beq_eq_false_iff_ne]; omega
                    clear hn0
                    refine wp_region_held_drew (S := (fun W => (W.cell? ⟨gl, j * 5, none⟩ = some (.int .u8 (fk : Int)) ∧ W.cell? ⟨gl, j * 5 + 1, none⟩ = some (.string fK) ∧ W.cell? ⟨gl, j * 5 + 2, none⟩ = some (.string fT) ∧ W.cell? ⟨gl, j * 5 + 3, none⟩ = some (.int .i64 fl) ∧ W.cell? ⟨gl, j * 5 + 4, none⟩ = some (.int .i64 fm)) ∧ W.cell? ⟨w.heap.size, i, none⟩ = some (.string si) ∧ W.cell? ⟨g, 0, none⟩ = some (.string sk) ∧ W.cell? ⟨g, 1, none⟩ = some (.int .i64 v1) ∧ W.cell? ⟨g, 2, none⟩ = some (.int .i64 vn))) (by as_aux_lemma => kernel_rfl) (HSJ.out _ D0) (fun hHeld => ?_)
                    refine wpAnyH_take (i := 0) (oi := { dst := some 108, op := Op.move (Operand.tmp 7), type := 43, pos := "law.go:104", after := #[], guard := none }) (v := ?_) rfl (by as_aux_lemma => kernel_rfl) (by as_aux_lemma => kernel_rfl) (by as_aux_lemma => kernel_rfl) (fun _ _ _ h => h) (Or.inl ⟨by rfl, ?_⟩) (by assumption) ?_
                    rotate_left
                    · intro W hSW; (try dsimp only at hSW); go_simp; try with_reducible rfl
                    try simp only [Act.put, List.setIfInBounds_toArray, List.set_cons_zero, List.set_cons_succ]
                    refine wpAnyH_take (i := 1) (oi := { dst := some 109, op := Op.move (Operand.tmp 8), type := 3, pos := "law.go:104", after := #[], guard := none }) (v := ?_) rfl (by as_aux_lemma => kernel_rfl) (by as_aux_lemma => kernel_rfl) (by as_aux_lemma => kernel_rfl) (fun _ _ _ h => h) (Or.inl ⟨by rfl, ?_⟩) (by assumption) ?_
                    rotate_left
                    · intro W hSW; (try dsimp only at hSW); go_simp; try with_reducible rfl
                    try simp only [Act.put, List.setIfInBounds_toArray, List.set_cons_zero, List.set_cons_succ]
                    refine wpAnyH_take (i := 2) (oi := { dst := some 110, op := Op.indexAddr 43 (Operand.tmp 108) (Operand.tmp 109), type := 0, pos := "law.go:104", after := #[{ on := 0, ground := Ground.data }, { on := 1, ground := Ground.data }], guard := none }) (v := ?_) rfl (by as_aux_lemma => kernel_rfl) (by as_aux_lemma => kernel_rfl) (by as_aux_lemma => kernel_rfl) (fun _ _ _ h => h) (Or.inl ⟨by rfl, ?_⟩) (by assumption) ?_
                    rotate_left
                    · intro W hSW; (try dsimp only at hSW); go_simp; try with_reducible rfl
                    try simp only [Act.put, List.setIfInBounds_toArray, List.set_cons_zero, List.set_cons_succ]
                    refine wpAnyH_take (i := 3) (oi := { dst := some 111, op := Op.load 23 (Operand.tmp 110), type := 23, pos := "law.go:104", after := #[{ on := 2, ground := Ground.data }], guard := none }) (v := ?_) rfl (by as_aux_lemma => kernel_rfl) (by as_aux_lemma => kernel_rfl) (by as_aux_lemma => kernel_rfl) (fun _ _ _ h => h) (Or.inl ⟨by rfl, ?_⟩) (by assumption) ?_
                    rotate_left
                    · intro W hSW; (try dsimp only at hSW); go_simp; try with_reducible rfl
                    try simp only [Act.put, List.setIfInBounds_toArray, List.set_cons_zero, List.set_cons_succ]
                    refine wpAnyH_take (i := 4) (oi := { dst := some 112, op := Op.load 33 (Operand.tmp 6), type := 33, pos := "law.go:104", after := #[], guard := none }) (v := ?_) rfl (by as_aux_lemma => kernel_rfl) (by as_aux_lemma => kernel_rfl) (by as_aux_lemma => kernel_rfl) (fun _ _ _ h => h) (Or.inl ⟨by rfl, ?_⟩) (by assumption) ?_
                    rotate_left
                    · intro W hSW; (try dsimp only at hSW); go_simp; try with_reducible rfl
                    try simp only [Act.put, List.setIfInBounds_toArray, List.set_cons_zero, List.set_cons_succ]
                    refine wpAnyH_ready (rs := [5]) (by as_aux_lemma => kernel_rfl) (by simp) ?_
                    refine AllReadyH.cons (o := { dst := some 113, op := Op.call { callee := Callee.value (Operand.func 15), args := #[Operand.tmp 111, Operand.tmp 112], argTypes := #[23, 33] }, type := 4, pos := "law.go:104", after := #[{ on := 3, ground := Ground.data }, { on := 4, ground := Ground.data }], guard := none }) rfl (fun K hK => ?_) AllReadyH.nil
                    go_simp
                    (go_at_call 15; (refine (HB1.out _).mono ?_); rintro x u1 ⟨rfl, b1⟩; have DV := below_next D0 b1; clear b1)
                    go_wp2_with fail
                    refine hK.out _ _ ?_ (fun hHeld => ?_)
                    · refine HSJ.out _ ?_; (repeat' first | (with_reducible exact DV) | (with_reducible exact Below.refl _ _) | (with_reducible refine Below.drew ?_) | (with_reducible refine Below.alloc ?_ ?_ _) | exact DV.size | exact Nat.le_refl _ | (simp; done) | (have := DV.size; simp; omega) | (simp; omega))
                    clear hK K
                    try simp only [Act.put, List.setIfInBounds_toArray, List.set_cons_zero, List.set_cons_succ]
                    refine wpAnyH_take (i := 6) (oi := { dst := some 114, op := Op.unOp UnOp.not 4 (Operand.tmp 113), type := 4, pos := "law.go:104", after := #[{ on := 5, ground := Ground.data }], guard := none }) (v := ?_) rfl (by as_aux_lemma => kernel_rfl) (by as_aux_lemma => kernel_rfl) (by as_aux_lemma => kernel_rfl) (fun _ _ _ h => h) (Or.inl ⟨by rfl, ?_⟩) (by assumption) ?_
                    rotate_left
                    · intro W hSW; (try dsimp only at hSW); go_simp; try with_reducible rfl
                    try simp only [Act.put, List.setIfInBounds_toArray, List.set_cons_zero, List.set_cons_succ]
                    refine wpAnyH_take (i := 7) (oi := { dst := some 115, op := Op.move (Operand.tmp 114), type := 4, pos := "law.go:104", after := #[{ on := 6, ground := Ground.data }, { on := 5, ground := Ground.chain }], guard := none }) (v := ?_) rfl (by as_aux_lemma => kernel_rfl) (by as_aux_lemma => kernel_rfl) (by as_aux_lemma => kernel_rfl) (fun _ _ _ h => h) (Or.inl ⟨by rfl, ?_⟩) (by assumption) ?_
                    rotate_left
                    · intro W hSW; (try dsimp only at hSW); go_simp; try with_reducible rfl
                    try simp only [Act.put, List.setIfInBounds_toArray, List.set_cons_zero, List.set_cons_succ]
                    refine wpAnyH_take (i := 8) (oi := { dst := some 116, op := Op.move (Operand.tmp 7), type := 43, pos := "law.go:104", after := #[{ on := 7, ground := Ground.guard }], guard := some (7, false) }) (v := ?_) rfl (by as_aux_lemma => kernel_rfl) (by as_aux_lemma => kernel_rfl) (by as_aux_lemma => kernel_rfl) (fun _ _ _ h => h) (Or.inl ⟨by rfl, ?_⟩) (by assumption) ?_
                    rotate_left
                    · intro W hSW; (try dsimp only at hSW); go_simp; try with_reducible rfl
                    try simp only [Act.put, List.setIfInBounds_toArray, List.set_cons_zero, List.set_cons_succ]
                    refine wpAnyH_take (i := 9) (oi := { dst := some 117, op := Op.move (Operand.tmp 8), type := 3, pos := "law.go:104", after := #[{ on := 7, ground := Ground.guard }], guard := some (7, false) }) (v := ?_) rfl (by as_aux_lemma => kernel_rfl) (by as_aux_lemma => kernel_rfl) (by as_aux_lemma => kernel_rfl) (fun _ _ _ h => h) (Or.inl ⟨by rfl, ?_⟩) (by assumption) ?_
                    rotate_left
                    · intro W hSW; (try dsimp only at hSW); go_simp; try with_reducible rfl
                    try simp only [Act.put, List.setIfInBounds_toArray, List.set_cons_zero, List.set_cons_succ]
                    refine wpAnyH_take (i := 10) (oi := { dst := some 118, op := Op.indexAddr 43 (Operand.tmp 116) (Operand.tmp 117), type := 0, pos := "law.go:104", after := #[{ on := 8, ground := Ground.data }, { on := 9, ground := Ground.data }, { on := 7, ground := Ground.guard }], guard := some (7, false) }) (v := ?_) rfl (by as_aux_lemma => kernel_rfl) (by as_aux_lemma => kernel_rfl) (by as_aux_lemma => kernel_rfl) (fun _ _ _ h => h) (Or.inl ⟨by rfl, ?_⟩) (by assumption) ?_
                    rotate_left
                    · intro W hSW; (try dsimp only at hSW); go_simp; try with_reducible rfl
                    try simp only [Act.put, List.setIfInBounds_toArray, List.set_cons_zero, List.set_cons_succ]
                    refine wpAnyH_take (i := 11) (oi := { dst := some 119, op := Op.load 23 (Operand.tmp 118), type := 23, pos := "law.go:104", after := #[{ on := 10, ground := Ground.data }, { on := 7, ground := Ground.guard }], guard := some (7, false) }) (v := ?_) rfl (by as_aux_lemma => kernel_rfl) (by as_aux_lemma => kernel_rfl) (by as_aux_lemma => kernel_rfl) (fun _ _ _ h => h) (Or.inl ⟨by rfl, ?_⟩) (by assumption) ?_
                    rotate_left
                    · intro W hSW; (try dsimp only at hSW); go_simp; try with_reducible rfl
                    try simp only [Act.put, List.setIfInBounds_toArray, List.set_cons_zero, List.set_cons_succ]
                    refine wpAnyH_take (i := 12) (oi := { dst := some 120, op := Op.load 33 (Operand.tmp 6), type := 33, pos := "law.go:104", after := #[{ on := 7, ground := Ground.guard }], guard := some (7, false) }) (v := ?_) rfl (by as_aux_lemma => kernel_rfl) (by as_aux_lemma => kernel_rfl) (by as_aux_lemma => kernel_rfl) (fun _ _ _ h => h) (Or.inl ⟨by rfl, ?_⟩) (by assumption) ?_
                    rotate_left
                    · intro W hSW; (try dsimp only at hSW); go_simp; try with_reducible rfl
                    try simp only [Act.put, List.setIfInBounds_toArray, List.set_cons_zero, List.set_cons_succ]
                    refine wpAnyH_take (i := 13) (oi := { dst := some 121, op := Op.load 33 (Operand.tmp 6), type := 33, pos := "law.go:104", after := #[{ on := 7, ground := Ground.guard }], guard := some (7, false) }) (v := ?_) rfl (by as_aux_lemma => kernel_rfl) (by as_aux_lemma => kernel_rfl) (by as_aux_lemma => kernel_rfl) (fun _ _ _ h => h) (Or.inl ⟨by rfl, ?_⟩) (by assumption) ?_
                    rotate_left
                    · intro W hSW; (try dsimp only at hSW); go_simp; try with_reducible rfl
                    try simp only [Act.put, List.setIfInBounds_toArray, List.set_cons_zero, List.set_cons_succ]
                    refine wpAnyH_ready (rs := [14]) (by as_aux_lemma => kernel_rfl) (by simp) ?_
                    refine AllReadyH.cons (o := { dst := some 122, op := Op.call { callee := Callee.value (Operand.func 17), args := #[Operand.tmp 121], argTypes := #[33] }, type := 9, pos := "law.go:104", after := #[{ on := 13, ground := Ground.data }, { on := 7, ground := Ground.chain }, { on := 7, ground := Ground.guard }], guard := some (7, false) }) rfl (fun K hK => ?_) AllReadyH.nil
                    go_simp
                    (go_at_call 17; (refine (HB2.out _).mono ?_); rintro x u2 ⟨U, rfl, _, _, b2⟩; have DV := below_next DV b2; clear b2)
                    go_wp2_with fail
                    refine hK.out _ _ ?_ (fun hHeld => ?_)
                    · refine HSJ.out _ ?_; (repeat' first | (with_reducible exact DV) | (with_reducible exact Below.refl _ _) | (with_reducible refine Below.drew ?_) | (with_reducible refine Below.alloc ?_ ?_ _) | exact DV.size | exact Nat.le_refl _ | (simp; done) | (have := DV.size; simp; omega) | (simp; omega))
                    clear hK K
                    try simp only [Act.put, List.setIfInBounds_toArray, List.set_cons_zero, List.set_cons_succ]
                    refine wpAnyH_ready (rs := [15]) (by as_aux_lemma => kernel_rfl) (by simp) ?_
                    refine AllReadyH.cons (o := { dst := some 123, op := Op.call { callee := Callee.value (Operand.func 16), args := #[Operand.tmp 119, Operand.tmp 120, Operand.tmp 122], argTypes := #[23, 33, 9] }, type := 4, pos := "law.go:104", after := #[{ on := 11, ground := Ground.data }, { on := 12, ground := Ground.data }, { on := 14, ground := Ground.data }, { on := 14, ground := Ground.chain }, { on := 7, ground := Ground.guard }], guard := some (7, false) }) rfl (fun K hK => ?_) AllReadyH.nil
                    go_simp
                    (go_at_call 16; (refine (HB3.out U _).mono ?_); rintro x u3 ⟨rfl, b3⟩; have DV := below_next DV b3; clear b3)
                    go_wp2_with fail
                    refine hK.out _ _ ?_ (fun hHeld => ?_)
                    · refine HSJ.out _ ?_; (repeat' first | (with_reducible exact DV) | (with_reducible exact Below.refl _ _) | (with_reducible refine Below.drew ?_) | (with_reducible refine Below.alloc ?_ ?_ _) | exact DV.size | exact Nat.le_refl _ | (simp; done) | (have := DV.size; simp; omega) | (simp; omega))
                    clear hK K
                    try simp only [Act.put, List.setIfInBounds_toArray, List.set_cons_zero, List.set_cons_succ]
                    refine wpAnyH_take (i := 16) (oi := { dst := some 124, op := Op.unOp UnOp.not 4 (Operand.tmp 123), type := 4, pos := "law.go:104", after := #[{ on := 15, ground := Ground.data }, { on := 7, ground := Ground.guard }], guard := some (7, false) }) (v := ?_) rfl (by as_aux_lemma => kernel_rfl) (by as_aux_lemma => kernel_rfl) (by as_aux_lemma => kernel_rfl) (fun _ _ _ h => h) (Or.inl ⟨by rfl, ?_⟩) (by assumption) ?_
                    rotate_left
                    · intro W hSW; (try dsimp only at hSW); go_simp; try with_reducible rfl
                    try simp only [Act.put, List.setIfInBounds_toArray, List.set_cons_zero, List.set_cons_succ]
                    refine wpAnyH_take (i := 17) (oi := { dst := some 125, op := Op.pick (Operand.tmp 115) (Operand.const (Value.bool true)) (Operand.tmp 124), type := 4, pos := "law.go:104", after := #[{ on := 7, ground := Ground.data }, { on := 16, ground := Ground.data }], guard := none }) (v := ?_) rfl (by as_aux_lemma => kernel_rfl) (by as_aux_lemma => kernel_rfl) (by as_aux_lemma => kernel_rfl) (fun _ _ _ h => h) (Or.inl ⟨by rfl, ?_⟩) (by assumption) ?_
                    rotate_left
                    · intro W hSW; (try dsimp only at hSW); go_simp; try with_reducible rfl
                    try simp only [Act.put, List.setIfInBounds_toArray, List.set_cons_zero, List.set_cons_succ]
                    refine wpAnyH_take (i := 18) (oi := { dst := some 126, op := Op.move (Operand.tmp 125), type := 4, pos := "law.go:104", after := #[{ on := 17, ground := Ground.data }, { on := 15, ground := Ground.chain }], guard := none }) (v := ?_) rfl (by as_aux_lemma => kernel_rfl) (by as_aux_lemma => kernel_rfl) (by as_aux_lemma => kernel_rfl) (fun _ _ _ h => h) (Or.inl ⟨by rfl, ?_⟩) (by assumption) ?_
                    rotate_left
                    · intro W hSW; (try dsimp only at hSW); go_simp; try with_reducible rfl
                    try simp only [Act.put, List.setIfInBounds_toArray, List.set_cons_zero, List.set_cons_succ]
                    refine wpAnyH_take (i := 19) (oi := { dst := some 127, op := Op.move (Operand.tmp 7), type := 43, pos := "law.go:104", after := #[{ on := 18, ground := Ground.guard }], guard := some (18, false) }) (v := ?_) rfl (by as_aux_lemma => kernel_rfl) (by as_aux_lemma => kernel_rfl) (by as_aux_lemma => kernel_rfl) (fun _ _ _ h => h) (Or.inl ⟨by rfl, ?_⟩) (by assumption) ?_
                    rotate_left
                    · intro W hSW; (try dsimp only at hSW); go_simp; try with_reducible rfl
                    try simp only [Act.put, List.setIfInBounds_toArray, List.set_cons_zero, List.set_cons_succ]
                    refine wpAnyH_take (i := 20) (oi := { dst := some 128, op := Op.move (Operand.tmp 8), type := 3, pos := "law.go:104", after := #[{ on := 18, ground := Ground.guard }], guard := some (18, false) }) (v := ?_) rfl (by as_aux_lemma => kernel_rfl) (by as_aux_lemma => kernel_rfl) (by as_aux_lemma => kernel_rfl) (fun _ _ _ h => h) (Or.inl ⟨by rfl, ?_⟩) (by assumption) ?_
                    rotate_left
                    · intro W hSW; (try dsimp only at hSW); go_simp; try with_reducible rfl
                    try simp only [Act.put, List.setIfInBounds_toArray, List.set_cons_zero, List.set_cons_succ]
                    refine wpAnyH_take (i := 21) (oi := { dst := some 129, op := Op.indexAddr 43 (Operand.tmp 127) (Operand.tmp 128), type := 0, pos := "law.go:104", after := #[{ on := 19, ground := Ground.data }, { on := 20, ground := Ground.data }, { on := 18, ground := Ground.guard }], guard := some (18, false) }) (v := ?_) rfl (by as_aux_lemma => kernel_rfl) (by as_aux_lemma => kernel_rfl) (by as_aux_lemma => kernel_rfl) (fun _ _ _ h => h) (Or.inl ⟨by rfl, ?_⟩) (by assumption) ?_
                    rotate_left
                    · intro W hSW; (try dsimp only at hSW); go_simp; try with_reducible rfl
                    try simp only [Act.put, List.setIfInBounds_toArray, List.set_cons_zero, List.set_cons_succ]
                    refine wpAnyH_take (i := 22) (oi := { dst := some 130, op := Op.load 23 (Operand.tmp 129), type := 23, pos := "law.go:104", after := #[{ on := 21, ground := Ground.data }, { on := 18, ground := Ground.guard }], guard := some (18, false) }) (v := ?_) rfl (by as_aux_lemma => kernel_rfl) (by as_aux_lemma => kernel_rfl) (by as_aux_lemma => kernel_rfl) (fun _ _ _ h => h) (Or.inl ⟨by rfl, ?_⟩) (by assumption) ?_
                    rotate_left
                    · intro W hSW; (try dsimp only at hSW); go_simp; try with_reducible rfl
                    try simp only [Act.put, List.setIfInBounds_toArray, List.set_cons_zero, List.set_cons_succ]
                    refine wpAnyH_take (i := 23) (oi := { dst := some 131, op := Op.load 33 (Operand.tmp 6), type := 33, pos := "law.go:104", after := #[{ on := 18, ground := Ground.guard }], guard := some (18, false) }) (v := ?_) rfl (by as_aux_lemma => kernel_rfl) (by as_aux_lemma => kernel_rfl) (by as_aux_lemma => kernel_rfl) (fun _ _ _ h => h) (Or.inl ⟨by rfl, ?_⟩) (by assumption) ?_
                    rotate_left
                    · intro W hSW; (try dsimp only at hSW); go_simp; try with_reducible rfl
                    try simp only [Act.put, List.setIfInBounds_toArray, List.set_cons_zero, List.set_cons_succ]
                    refine wpAnyH_take (i := 24) (oi := { dst := some 132, op := Op.load 33 (Operand.tmp 6), type := 33, pos := "law.go:104", after := #[{ on := 18, ground := Ground.guard }], guard := some (18, false) }) (v := ?_) rfl (by as_aux_lemma => kernel_rfl) (by as_aux_lemma => kernel_rfl) (by as_aux_lemma => kernel_rfl) (fun _ _ _ h => h) (Or.inl ⟨by rfl, ?_⟩) (by assumption) ?_
                    rotate_left
                    · intro W hSW; (try dsimp only at hSW); go_simp; try with_reducible rfl
                    try simp only [Act.put, List.setIfInBounds_toArray, List.set_cons_zero, List.set_cons_succ]
                    refine wpAnyH_ready (rs := [25]) (by as_aux_lemma => kernel_rfl) (by simp) ?_
                    refine AllReadyH.cons (o := { dst := some 133, op := Op.call { callee := Callee.value (Operand.func 18), args := #[Operand.tmp 132], argTypes := #[33] }, type := 9, pos := "law.go:104", after := #[{ on := 24, ground := Ground.data }, { on := 18, ground := Ground.chain }, { on := 18, ground := Ground.guard }], guard := some (18, false) }) rfl (fun K hK => ?_) AllReadyH.nil
                    go_simp
                    (go_at_call 18; (refine (HB4.out _).mono ?_); rintro x u4 ⟨U2, rfl, _, _, b4⟩; have DV := below_next DV b4; clear b4)
                    go_wp2_with fail
                    refine hK.out _ _ ?_ (fun hHeld => ?_)
                    · refine HSJ.out _ ?_; (repeat' first | (with_reducible exact DV) | (with_reducible exact Below.refl _ _) | (with_reducible refine Below.drew ?_) | (with_reducible refine Below.alloc ?_ ?_ _) | exact DV.size | exact Nat.le_refl _ | (simp; done) | (have := DV.size; simp; omega) | (simp; omega))
                    clear hK K
                    try simp only [Act.put, List.setIfInBounds_toArray, List.set_cons_zero, List.set_cons_succ]
                    refine wpAnyH_ready (rs := [26]) (by as_aux_lemma => kernel_rfl) (by simp) ?_
                    refine AllReadyH.cons (o := { dst := some 134, op := Op.call { callee := Callee.value (Operand.func 16), args := #[Operand.tmp 130, Operand.tmp 131, Operand.tmp 133], argTypes := #[23, 33, 9] }, type := 4, pos := "law.go:104", after := #[{ on := 22, ground := Ground.data }, { on := 23, ground := Ground.data }, { on := 25, ground := Ground.data }, { on := 25, ground := Ground.chain }, { on := 18, ground := Ground.guard }], guard := some (18, false) }) rfl (fun K hK => ?_) AllReadyH.nil
                    go_simp
                    (go_at_call 16; (refine (HB3.out U2 _).mono ?_); rintro x u5 ⟨rfl, b5⟩; have DV := below_next DV b5; clear b5)
                    go_wp2_with fail
                    refine hK.out _ _ ?_ (fun hHeld => ?_)
                    · refine HSJ.out _ ?_; (repeat' first | (with_reducible exact DV) | (with_reducible exact Below.refl _ _) | (with_reducible refine Below.drew ?_) | (with_reducible refine Below.alloc ?_ ?_ _) | exact DV.size | exact Nat.le_refl _ | (simp; done) | (have := DV.size; simp; omega) | (simp; omega))
                    clear hK K
                    try simp only [Act.put, List.setIfInBounds_toArray, List.set_cons_zero, List.set_cons_succ]
                    refine wpAnyH_take (i := 27) (oi := { dst := some 135, op := Op.unOp UnOp.not 4 (Operand.tmp 134), type := 4, pos := "law.go:104", after := #[{ on := 26, ground := Ground.data }, { on := 18, ground := Ground.guard }], guard := some (18, false) }) (v := ?_) rfl (by as_aux_lemma => kernel_rfl) (by as_aux_lemma => kernel_rfl) (by as_aux_lemma => kernel_rfl) (fun _ _ _ h => h) (Or.inl ⟨by rfl, ?_⟩) (by assumption) ?_
                    rotate_left
                    · intro W hSW; (try dsimp only at hSW); go_simp; try with_reducible rfl
                    try simp only [Act.put, List.setIfInBounds_toArray, List.set_cons_zero, List.set_cons_succ]
                    refine wpAnyH_take (i := 28) (oi := { dst := some 136, op := Op.pick (Operand.tmp 126) (Operand.const (Value.bool true)) (Operand.tmp 135), type := 4, pos := "law.go:104", after := #[{ on := 18, ground := Ground.data }, { on := 27, ground := Ground.data }], guard := none }) (v := ?_) rfl (by as_aux_lemma => kernel_rfl) (by as_aux_lemma => kernel_rfl) (by as_aux_lemma => kernel_rfl) (fun _ _ _ h => h) (Or.inl ⟨by rfl, ?_⟩) (by assumption) ?_
                    rotate_left
                    · intro W hSW; (try dsimp only at hSW); go_simp; try with_reducible rfl
                    try simp only [Act.put, List.setIfInBounds_toArray, List.set_cons_zero, List.set_cons_succ]
                    refine wpAnyH_take (i := 29) (oi := { dst := some 137, op := Op.move (Operand.tmp 136), type := 4, pos := "law.go:104", after := #[{ on := 28, ground := Ground.data }, { on := 26, ground := Ground.chain }], guard := none }) (v := ?_) rfl (by as_aux_lemma => kernel_rfl) (by as_aux_lemma => kernel_rfl) (by as_aux_lemma => kernel_rfl) (fun _ _ _ h => h) (Or.inl ⟨by rfl, ?_⟩) (by assumption) ?_
                    rotate_left
                    · intro W hSW; (try dsimp only at hSW); go_simp; try with_reducible rfl
                    try simp only [Act.put, List.setIfInBounds_toArray, List.set_cons_zero, List.set_cons_succ]
                    refine wpAnyH_take (i := 30) (oi := { dst := some 138, op := Op.move (Operand.tmp 5), type := 3, pos := "law.go:104", after := #[{ on := 29, ground := Ground.guard }], guard := some (29, false) }) (v := ?_) rfl (by as_aux_lemma => kernel_rfl) (by as_aux_lemma => kernel_rfl) (by as_aux_lemma => kernel_rfl) (fun _ _ _ h => h) (Or.inl ⟨by rfl, ?_⟩) (by assumption) ?_
                    rotate_left
                    · intro W hSW; (try dsimp only at hSW); go_simp; try with_reducible rfl
                    try simp only [Act.put, List.setIfInBounds_toArray, List.set_cons_zero, List.set_cons_succ]
                    refine wpAnyH_take (i := 31) (oi := { dst := some 139, op := Op.binOp BinOp.eql 3 (Operand.tmp 138) (Operand.const (Value.int IntKind.i64 0)) 3, type := 4, pos := "law.go:104", after := #[{ on := 30, ground := Ground.data }, { on := 29, ground := Ground.guard }], guard := some (29, false) }) (v := ?_) rfl (by as_aux_lemma => kernel_rfl) (by as_aux_lemma => kernel_rfl) (by as_aux_lemma => kernel_rfl) (fun _ _ _ h => h) (Or.inl ⟨by rfl, ?_⟩) (by assumption) ?_
                    rotate_left
                    · intro W hSW; (try dsimp only at hSW); go_simp; try with_reducible rfl
                    try simp only [Act.put, List.setIfInBounds_toArray, List.set_cons_zero, List.set_cons_succ]
                    refine wpAnyH_take (i := 32) (oi := { dst := some 140, op := Op.move (Operand.tmp 139), type := 4, pos := "law.go:104", after := #[{ on := 31, ground := Ground.data }, { on := 29, ground := Ground.chain }, { on := 29, ground := Ground.guard }], guard := some (29, false) }) (v := ?_) rfl (by as_aux_lemma => kernel_rfl) (by as_aux_lemma => kernel_rfl) (by as_aux_lemma => kernel_rfl) (fun _ _ _ h => h) (Or.inl ⟨by rfl, ?_⟩) (by assumption) ?_
                    rotate_left
                    · intro W hSW; (try dsimp only at hSW); go_simp; try with_reducible rfl
                    try simp only [Act.put, List.setIfInBounds_toArray, List.set_cons_zero, List.set_cons_succ]
                    refine wpAnyH_take (i := 33) (oi := { dst := some 141, op := Op.move (Operand.tmp 7), type := 43, pos := "law.go:104", after := #[{ on := 32, ground := Ground.guard }], guard := some (32, true) }) (v := undef) rfl (by as_aux_lemma => kernel_rfl) (by as_aux_lemma => kernel_rfl) (by as_aux_lemma => kernel_rfl) (fun _ _ _ h => h) (Or.inr ⟨by rfl, rfl⟩) (by assumption) ?_
                    try simp only [Act.put, List.setIfInBounds_toArray, List.set_cons_zero, List.set_cons_succ]
                    refine wpAnyH_take (i := 34) (oi := { dst := some 142, op := Op.move (Operand.tmp 8), type := 3, pos := "law.go:104", after := #[{ on := 32, ground := Ground.guard }], guard := some (32, true) }) (v := undef) rfl (by as_aux_lemma => kernel_rfl) (by as_aux_lemma => kernel_rfl) (by as_aux_lemma => kernel_rfl) (fun _ _ _ h => h) (Or.inr ⟨by rfl, rfl⟩) (by assumption) ?_
                    try simp only [Act.put, List.setIfInBounds_toArray, List.set_cons_zero, List.set_cons_succ]
                    refine wpAnyH_take (i := 35) (oi := { dst := some 143, op := Op.indexAddr 43 (Operand.tmp 141) (Operand.tmp 142), type := 0, pos := "law.go:104", after := #[{ on := 33, ground := Ground.data }, { on := 34, ground := Ground.data }, { on := 32, ground := Ground.guard }], guard := some (32, true) }) (v := undef) rfl (by as_aux_lemma => kernel_rfl) (by as_aux_lemma => kernel_rfl) (by as_aux_lemma => kernel_rfl) (fun _ _ _ h => h) (Or.inr ⟨by rfl, rfl⟩) (by assumption) ?_
                    try simp only [Act.put, List.setIfInBounds_toArray, List.set_cons_zero, List.set_cons_succ]
                    refine wpAnyH_take (i := 36) (oi := { dst := some 144, op := Op.load 23 (Operand.tmp 143), type := 23, pos := "law.go:104", after := #[{ on := 35, ground := Ground.data }, { on := 32, ground := Ground.guard }], guard := some (32, true) }) (v := undef) rfl (by as_aux_lemma => kernel_rfl) (by as_aux_lemma => kernel_rfl) (by as_aux_lemma => kernel_rfl) (fun _ _ _ h => h) (Or.inr ⟨by rfl, rfl⟩) (by assumption) ?_
                    try simp only [Act.put, List.setIfInBounds_toArray, List.set_cons_zero, List.set_cons_succ]
                    refine wpAnyH_take (i := 37) (oi := { dst := some 145, op := Op.load 33 (Operand.tmp 6), type := 33, pos := "law.go:104", after := #[{ on := 32, ground := Ground.guard }], guard := some (32, true) }) (v := undef) rfl (by as_aux_lemma => kernel_rfl) (by as_aux_lemma => kernel_rfl) (by as_aux_lemma => kernel_rfl) (fun _ _ _ h => h) (Or.inr ⟨by rfl, rfl⟩) (by assumption) ?_
                    try simp only [Act.put, List.setIfInBounds_toArray, List.set_cons_zero, List.set_cons_succ]
                    refine wpAnyH_take (i := 38) (oi := { dst := some 146, op := Op.move (Operand.tmp 1), type := 41, pos := "law.go:104", after := #[{ on := 32, ground := Ground.guard }], guard := some (32, true) }) (v := undef) rfl (by as_aux_lemma => kernel_rfl) (by as_aux_lemma => kernel_rfl) (by as_aux_lemma => kernel_rfl) (fun _ _ _ h => h) (Or.inr ⟨by rfl, rfl⟩) (by assumption) ?_
                    try simp only [Act.put, List.setIfInBounds_toArray, List.set_cons_zero, List.set_cons_succ]
                    refine wpAnyH_take (i := 39) (oi := { dst := some 147, op := Op.move (Operand.tmp 3), type := 3, pos := "law.go:104", after := #[{ on := 32, ground := Ground.guard }], guard := some (32, true) }) (v := undef) rfl (by as_aux_lemma => kernel_rfl) (by as_aux_lemma => kernel_rfl) (by as_aux_lemma => kernel_rfl) (fun _ _ _ h => h) (Or.inr ⟨by rfl, rfl⟩) (by assumption) ?_
                    try simp only [Act.put, List.setIfInBounds_toArray, List.set_cons_zero, List.set_cons_succ]
                    refine wpAnyH_take (i := 40) (oi := { dst := some 148, op := Op.indexAddr 41 (Operand.tmp 146) (Operand.tmp 147), type := 0, pos := "law.go:104", after := #[{ on := 38, ground := Ground.data }, { on := 39, ground := Ground.data }, { on := 32, ground := Ground.guard }], guard := some (32, true) }) (v := undef) rfl (by as_aux_lemma => kernel_rfl) (by as_aux_lemma => kernel_rfl) (by as_aux_lemma => kernel_rfl) (fun _ _ _ h => h) (Or.inr ⟨by rfl, rfl⟩) (by assumption) ?_
                    try simp only [Act.put, List.setIfInBounds_toArray, List.set_cons_zero, List.set_cons_succ]
                    refine wpAnyH_take (i := 41) (oi := { dst := some 149, op := Op.load 9 (Operand.tmp 148), type := 9, pos := "law.go:104", after := #[{ on := 40, ground := Ground.data }, { on := 32, ground := Ground.guard }], guard := some (32, true) }) (v := undef) rfl (by as_aux_lemma => kernel_rfl) (by as_aux_lemma => kernel_rfl) (by as_aux_lemma => kernel_rfl) (fun _ _ _ h => h) (Or.inr ⟨by rfl, rfl⟩) (by assumption) ?_
                    try simp only [Act.put, List.setIfInBounds_toArray, List.set_cons_zero, List.set_cons_succ]
                    refine wpAnyH_take (i := 42) (oi := { dst := some 150, op := Op.build 33 #[(0, Operand.tmp 149), (2, Operand.const (Value.int IntKind.i64 5))], type := 33, pos := "law.go:104", after := #[{ on := 41, ground := Ground.data }, { on := 32, ground := Ground.guard }], guard := some (32, true) }) (v := undef) rfl (by as_aux_lemma => kernel_rfl) (by as_aux_lemma => kernel_rfl) (by as_aux_lemma => kernel_rfl) (fun _ _ _ h => h) (Or.inr ⟨by rfl, rfl⟩) (by assumption) ?_
                    try simp only [Act.put, List.setIfInBounds_toArray, List.set_cons_zero, List.set_cons_succ]
                    refine wpAnyH_take (i := 43) (oi := { dst := some 151, op := Op.build 33 #[(0, Operand.const (Value.string { data := #[97] })), (1, Operand.const (Value.int IntKind.i64 1)), (2, Operand.const (Value.int IntKind.i64 5))], type := 33, pos := "law.go:104", after := #[{ on := 32, ground := Ground.guard }], guard := some (32, true) }) (v := undef) rfl (by as_aux_lemma => kernel_rfl) (by as_aux_lemma => kernel_rfl) (by as_aux_lemma => kernel_rfl) (fun _ _ _ h => h) (Or.inr ⟨by rfl, rfl⟩) (by assumption) ?_
                    try simp only [Act.put, List.setIfInBounds_toArray, List.set_cons_zero, List.set_cons_succ]
                    refine wpAnyH_take (i := 44) (oi := { dst := some 152, op := Op.load 33 (Operand.tmp 6), type := 33, pos := "law.go:104", after := #[{ on := 32, ground := Ground.guard }], guard := some (32, true) }) (v := undef) rfl (by as_aux_lemma => kernel_rfl) (by as_aux_lemma => kernel_rfl) (by as_aux_lemma => kernel_rfl) (fun _ _ _ h => h) (Or.inr ⟨by rfl, rfl⟩) (by assumption) ?_
                    try simp only [Act.put, List.setIfInBounds_toArray, List.set_cons_zero, List.set_cons_succ]
                    refine wpAnyH_take (i := 45) (oi := { dst := some 153, op := Op.build 33 #[(0, Operand.const (Value.string { data := #[98] })), (2, Operand.const (Value.int IntKind.i64 (-1)))], type := 33, pos := "law.go:104", after := #[{ on := 32, ground := Ground.guard }], guard := some (32, true) }) (v := undef) rfl (by as_aux_lemma => kernel_rfl) (by as_aux_lemma => kernel_rfl) (by as_aux_lemma => kernel_rfl) (fun _ _ _ h => h) (Or.inr ⟨by rfl, rfl⟩) (by assumption) ?_
                    try simp only [Act.put, List.setIfInBounds_toArray, List.set_cons_zero, List.set_cons_succ]
                    refine wpAnyH_take (i := 46) (oi := { dst := some 154, op := Op.buildSlice 29 5 #[(0, Operand.tmp 145), (1, Operand.tmp 150), (2, Operand.tmp 151), (3, Operand.tmp 152), (4, Operand.tmp 153)], type := 29, pos := "law.go:104", after := #[{ on := 37, ground := Ground.data }, { on := 42, ground := Ground.data }, { on := 43, ground := Ground.data }, { on := 44, ground := Ground.data }, { on := 45, ground := Ground.data }, { on := 32, ground := Ground.guard }], guard := some (32, true) }) (v := undef) rfl (by as_aux_lemma => kernel_rfl) (by as_aux_lemma => kernel_rfl) (by as_aux_lemma => kernel_rfl) (fun _ _ _ h => h) (Or.inr ⟨by rfl, rfl⟩) (by assumption) ?_
                    try simp only [Act.put, List.setIfInBounds_toArray, List.set_cons_zero, List.set_cons_succ]
                    refine wpAnyH_take (i := 47) (oi := { dst := some 155, op := Op.call { callee := Callee.value (Operand.func 4), args := #[Operand.tmp 144, Operand.tmp 154], argTypes := #[23, 29] }, type := 4, pos := "law.go:104", after := #[{ on := 36, ground := Ground.data }, { on := 46, ground := Ground.data }, { on := 32, ground := Ground.chain }, { on := 32, ground := Ground.guard }], guard := some (32, true) }) (v := undef) rfl (by as_aux_lemma => kernel_rfl) (by as_aux_lemma => kernel_rfl) (by as_aux_lemma => kernel_rfl) (fun _ _ _ h => h) (Or.inr ⟨by rfl, rfl⟩) (by assumption) ?_
                    try simp only [Act.put, List.setIfInBounds_toArray, List.set_cons_zero, List.set_cons_succ]
                    refine wpAnyH_take (i := 48) (oi := { dst := some 156, op := Op.unOp UnOp.not 4 (Operand.tmp 155), type := 4, pos := "law.go:104", after := #[{ on := 47, ground := Ground.data }, { on := 32, ground := Ground.guard }], guard := some (32, true) }) (v := undef) rfl (by as_aux_lemma => kernel_rfl) (by as_aux_lemma => kernel_rfl) (by as_aux_lemma => kernel_rfl) (fun _ _ _ h => h) (Or.inr ⟨by rfl, rfl⟩) (by assumption) ?_
                    try simp only [Act.put, List.setIfInBounds_toArray, List.set_cons_zero, List.set_cons_succ]
                    refine wpAnyH_take (i := 49) (oi := { dst := some 157, op := Op.pick (Operand.tmp 140) (Operand.tmp 156) (Operand.const (Value.bool false)), type := 4, pos := "law.go:104", after := #[{ on := 32, ground := Ground.data }, { on := 48, ground := Ground.data }, { on := 29, ground := Ground.guard }], guard := some (29, false) }) (v := ?_) rfl (by as_aux_lemma => kernel_rfl) (by as_aux_lemma => kernel_rfl) (by as_aux_lemma => kernel_rfl) (fun _ _ _ h => h) (Or.inl ⟨by rfl, ?_⟩) (by assumption) ?_
                    rotate_left
                    · intro W hSW; (try dsimp only at hSW); go_simp; try with_reducible rfl
                    try simp only [Act.put, List.setIfInBounds_toArray, List.set_cons_zero, List.set_cons_succ]
                    refine wpAnyH_take (i := 50) (oi := { dst := some 158, op := Op.pick (Operand.tmp 137) (Operand.const (Value.bool true)) (Operand.tmp 157), type := 4, pos := "law.go:104", after := #[{ on := 29, ground := Ground.data }, { on := 49, ground := Ground.data }], guard := none }) (v := ?_) rfl (by as_aux_lemma => kernel_rfl) (by as_aux_lemma => kernel_rfl) (by as_aux_lemma => kernel_rfl) (fun _ _ _ h => h) (Or.inl ⟨by rfl, ?_⟩) (by assumption) ?_
                    rotate_left
                    · intro W hSW; (try dsimp only at hSW); go_simp; try with_reducible rfl
                    try simp only [Act.put, List.setIfInBounds_toArray, List.set_cons_zero, List.set_cons_succ]
                    refine wpAnyH_done (by as_aux_lemma => kernel_rfl) ?_ _
                    go_wp2_with fail
                    exact ⟨⟨j + 1, by omega, by go_num, below_next HJ.out DV⟩, by simp [intOf]; omega⟩
                · as_aux_lemma =>
                    have hj5' : ¬ (j : Int) < 5 := by omega
                    have HSK : Hid (∀ W, Below wr.heap.size wr W → (fun W => W.cell? ⟨w.heap.size, i, none⟩ = some (.string si) ∧ W.cell? ⟨w.heap.size, k, none⟩ = some (.string sk) ∧ W.cell? ⟨w.heap.size + 1, n, none⟩ = some (.int .i64 vn) ∧ W.cell? ⟨w.heap.size + 1, r4, none⟩ = some (.int .i64 v4)) W) := Lib.hid fun W hW => by
                      obtain ⟨c0, c1, c2, c3, c4, c5, c6, c7⟩ := HCC.out _ (below_next H13.out.1 (below_next HJ.out hW))
                      exact ⟨c0, c1, c3, c6⟩
                    have HB6 := Lib.hid (fun W => boundMakes_any si sk vn v4 W)
                    have D0 : Below wr.heap.size wr wr.drew := (Below.refl _ _).drew
                    go_upto_region 19 with (fail)
                    go_region_held3 (fun W => W.cell? ⟨w.heap.size, i, none⟩ = some (.string si) ∧ W.cell? ⟨w.heap.size, k, none⟩ = some (.string sk) ∧ W.cell? ⟨w.heap.size + 1, n, none⟩ = some (.int .i64 vn) ∧ W.cell? ⟨w.heap.size + 1, r4, none⟩ = some (.int .i64 v4)) (first | with_reducible exact HSK.out _ D0 | with_reducible exact HSK.out _ D1) (first | (go_at_call 3; (refine (HB6.out _).mono ?_); rintro x y1 ⟨rfl, b1⟩; have D1 := below_next D0 b1; clear b1))
                    go_wp2_with fail
                    exact ⟨⟨n + 1, by omega, by go_num, below_next HW0.out (below_next HJ.out D1)⟩, by simp [intOf]; omega⟩
            · have hn7' : ¬ (n : Int) < 7 := by omega
              go_wp2_with fail
              exact ⟨⟨k + 1, by omega, by go_num, HN.out.1⟩, by simp [intOf]; omega⟩
        · have hk8' : ¬ (k : Int) < 8 := by omega
          go_wp2_with fail
          exact ⟨⟨i + 1, by omega, by go_num, HK.out⟩, by simp [intOf]; omega⟩
    · as_aux_lemma =>
        have hi8' : ¬ (i : Int) < 8 := by omega
        obtain ⟨wA, a1, a2, a4⟩ := make_all wr 33 33 rfl (by omega)
        have a5 := a4 wA (Below.refl _ _)
        obtain ⟨Z, hZ⟩ : ∃ z, textOf (List.replicate 33 0) = z := ⟨_, rfl⟩
        have zs : Z.size = 33 := by rw [← hZ]; rfl
        rw [hZ] at a5
        clear hZ
        have HA := Lib.hid (below_next (below_next HL.out.1 HI.out) a2)
        clear a2 a4
        go_upto_region 22 with (fail)
        clear a1 a5
        have hz : i64ok 0 := by unfold i64ok; decide
        have HT1 := Lib.hid (fun W => boundTells_any 1 Z ⟨#[]⟩ 1 0 Z 0 0 ⟨#[]⟩ W ⟨by show (1 : Nat) < 256; omega, (by unfold i64ok; decide : i64ok 1), hz⟩ hz hz)
        have HT2 := Lib.hid (fun W => boundTells_any 2 ⟨#[]⟩ Z 0 0 ⟨#[]⟩ 0 0 ⟨#[120]⟩ W ⟨by show (2 : Nat) < 256; omega, hz, hz⟩ hz hz)
        have HT3 := Lib.hid (fun (Y : ByteArray) W => boundTells_any 2 Y Y 0 0 ⟨#[]⟩ 0 0 ⟨#[120]⟩ W ⟨by show (2 : Nat) < 256; omega, hz, hz⟩ hz hz)
        have HT4 := Lib.hid (fun W => boundSorts_any 3 ⟨#[]⟩ ⟨#[]⟩ 0 9 0 0 0 none [] W ⟨rfl, fun h0 => absurd h0 (by decide)⟩ (fun p hp => absurd hp (List.not_mem_nil)) (Nat.zero_le _))
        have D0 : Below wA.heap.size wA wA.drew := (Below.refl _ _).drew
        refine wp_region_held_drew (S := (fun _ => True)) (by as_aux_lemma => kernel_rfl) (trivial) (fun hHeld => ?_)
        refine wpAnyH_take (i := 0) (oi := { dst := some 180, op := Op.move (Operand.tmp 9), type := 9, pos := "law.go:115", after := #[], guard := none }) (v := ?_) rfl (by as_aux_lemma => kernel_rfl) (by as_aux_lemma => kernel_rfl) (by as_aux_lemma => kernel_rfl) (fun _ _ _ h => h) (Or.inl ⟨by rfl, ?_⟩) (by assumption) ?_
        rotate_left
        · intro W hSW; (try dsimp only at hSW); go_simp; try with_reducible rfl
        try simp only [Act.put, List.setIfInBounds_toArray, List.set_cons_zero, List.set_cons_succ]
        refine wpAnyH_take (i := 2) (oi := { dst := some 182, op := Op.move (Operand.tmp 9), type := 9, pos := "law.go:115", after := #[], guard := none }) (v := ?_) rfl (by as_aux_lemma => kernel_rfl) (by as_aux_lemma => kernel_rfl) (by as_aux_lemma => kernel_rfl) (fun _ _ _ h => h) (Or.inl ⟨by rfl, ?_⟩) (by assumption) ?_
        rotate_left
        · intro W hSW; (try dsimp only at hSW); go_simp; try with_reducible rfl
        try simp only [Act.put, List.setIfInBounds_toArray, List.set_cons_zero, List.set_cons_succ]
        refine wpAnyH_take (i := 3) (oi := { dst := some 183, op := Op.build 33 #[(0, Operand.tmp 182)], type := 33, pos := "law.go:115", after := #[{ on := 2, ground := Ground.data }], guard := none }) (v := ?_) rfl (by as_aux_lemma => kernel_rfl) (by as_aux_lemma => kernel_rfl) (by as_aux_lemma => kernel_rfl) (fun _ _ _ h => h) (Or.inl ⟨by rfl, ?_⟩) (by assumption) ?_
        rotate_left
        · intro W hSW; (try dsimp only at hSW); go_simp; try with_reducible rfl
        try simp only [Act.put, List.setIfInBounds_toArray, List.set_cons_zero, List.set_cons_succ]
        refine wpAnyH_ready (rs := [1]) (by as_aux_lemma => kernel_rfl) (by simp) ?_
        refine AllReadyH.cons (o := { dst := some 181, op := Op.call { callee := Callee.value (Operand.func 6), args := #[Operand.tmp 180, Operand.const (Value.int IntKind.i64 1)], argTypes := #[9, 2] }, type := 23, pos := "law.go:115", after := #[{ on := 0, ground := Ground.data }], guard := none }) rfl (fun K hK => ?_) AllReadyH.nil
        go_simp
        (go_at_call 6; (refine (ofPoint_any Z 1 _).mono ?_); rintro x y1 ⟨rfl, b1⟩; have DV := below_next D0 b1; clear b1)
        go_wp2_with fail
        refine hK.out _ _ ?_ (fun hHeld => ?_)
        · exact trivial
        clear hK K
        try simp only [Act.put, List.setIfInBounds_toArray, List.set_cons_zero, List.set_cons_succ]
        refine wpAnyH_ready (rs := [4]) (by as_aux_lemma => kernel_rfl) (by simp) ?_
        refine AllReadyH.cons (o := { dst := some 184, op := Op.call { callee := Callee.value (Operand.func 16), args := #[Operand.tmp 181, Operand.tmp 183, Operand.const (Value.string { data := #[] })], argTypes := #[23, 33, 9] }, type := 4, pos := "law.go:115", after := #[{ on := 1, ground := Ground.data }, { on := 3, ground := Ground.data }, { on := 1, ground := Ground.chain }], guard := none }) rfl (fun K hK => ?_) AllReadyH.nil
        go_simp
        (go_at_call 16; (refine (HT1.out _).mono ?_); rintro x y2 ⟨rfl, b2⟩; have DV := below_next DV b2; clear b2)
        go_wp2_with fail
        refine hK.out _ _ ?_ (fun hHeld => ?_)
        · exact trivial
        clear hK K
        try simp only [Act.put, List.setIfInBounds_toArray, List.set_cons_zero, List.set_cons_succ]
        refine wpAnyH_take (i := 5) (oi := { dst := some 185, op := Op.move (Operand.tmp 184), type := 4, pos := "law.go:115", after := #[{ on := 4, ground := Ground.data }, { on := 4, ground := Ground.chain }], guard := none }) (v := ?_) rfl (by as_aux_lemma => kernel_rfl) (by as_aux_lemma => kernel_rfl) (by as_aux_lemma => kernel_rfl) (fun _ _ _ h => h) (Or.inl ⟨by rfl, ?_⟩) (by assumption) ?_
        rotate_left
        · intro W hSW; (try dsimp only at hSW); go_simp; try with_reducible rfl
        try simp only [Act.put, List.setIfInBounds_toArray, List.set_cons_zero, List.set_cons_succ]
        refine wpAnyH_take (i := 6) (oi := { dst := some 186, op := Op.move (Operand.tmp 9), type := 9, pos := "law.go:115", after := #[{ on := 5, ground := Ground.guard }], guard := some (5, true) }) (v := ?_) rfl (by as_aux_lemma => kernel_rfl) (by as_aux_lemma => kernel_rfl) (by as_aux_lemma => kernel_rfl) (fun _ _ _ h => h) (Or.inl ⟨by rfl, ?_⟩) (by assumption) ?_
        rotate_left
        · intro W hSW; (try dsimp only at hSW); go_simp; try with_reducible rfl
        try simp only [Act.put, List.setIfInBounds_toArray, List.set_cons_zero, List.set_cons_succ]
        refine wpAnyH_take (i := 8) (oi := { dst := some 188, op := Op.build 33 #[], type := 33, pos := "law.go:115", after := #[{ on := 5, ground := Ground.guard }], guard := some (5, true) }) (v := ?_) rfl (by as_aux_lemma => kernel_rfl) (by as_aux_lemma => kernel_rfl) (by as_aux_lemma => kernel_rfl) (fun _ _ _ h => h) (Or.inl ⟨by rfl, ?_⟩) (by assumption) ?_
        rotate_left
        · intro W hSW; (try dsimp only at hSW); go_simp; try with_reducible rfl
        try simp only [Act.put, List.setIfInBounds_toArray, List.set_cons_zero, List.set_cons_succ]
        refine wpAnyH_ready (rs := [7]) (by as_aux_lemma => kernel_rfl) (by simp) ?_
        refine AllReadyH.cons (o := { dst := some 187, op := Op.call { callee := Callee.value (Operand.func 7), args := #[Operand.const (Value.string { data := #[] }), Operand.tmp 186], argTypes := #[9, 9] }, type := 23, pos := "law.go:115", after := #[{ on := 6, ground := Ground.data }, { on := 5, ground := Ground.chain }, { on := 5, ground := Ground.guard }], guard := some (5, true) }) rfl (fun K hK => ?_) AllReadyH.nil
        go_simp
        (go_at_call 7; (refine (ofRange_any ⟨#[]⟩ Z _).mono ?_); rintro x y3 ⟨rfl, b3⟩; have DV := below_next DV b3; clear b3)
        go_wp2_with fail
        refine hK.out _ _ ?_ (fun hHeld => ?_)
        · exact trivial
        clear hK K
        try simp only [Act.put, List.setIfInBounds_toArray, List.set_cons_zero, List.set_cons_succ]
        refine wpAnyH_ready (rs := [9]) (by as_aux_lemma => kernel_rfl) (by simp) ?_
        refine AllReadyH.cons (o := { dst := some 189, op := Op.call { callee := Callee.value (Operand.func 16), args := #[Operand.tmp 187, Operand.tmp 188, Operand.const (Value.string { data := #[120] })], argTypes := #[23, 33, 9] }, type := 4, pos := "law.go:115", after := #[{ on := 7, ground := Ground.data }, { on := 8, ground := Ground.data }, { on := 7, ground := Ground.chain }, { on := 5, ground := Ground.guard }], guard := some (5, true) }) rfl (fun K hK => ?_) AllReadyH.nil
        go_simp
        (go_at_call 16; (refine (HT2.out _).mono ?_); rintro x y4 ⟨rfl, b4⟩; have DV := below_next DV b4; clear b4)
        go_wp2_with fail
        refine hK.out _ _ ?_ (fun hHeld => ?_)
        · exact trivial
        clear hK K
        try simp only [Act.put, List.setIfInBounds_toArray, List.set_cons_zero, List.set_cons_succ]
        refine wpAnyH_take (i := 10) (oi := { dst := some 190, op := Op.pick (Operand.tmp 185) (Operand.tmp 189) (Operand.const (Value.bool false)), type := 4, pos := "law.go:115", after := #[{ on := 5, ground := Ground.data }, { on := 9, ground := Ground.data }], guard := none }) (v := ?_) rfl (by as_aux_lemma => kernel_rfl) (by as_aux_lemma => kernel_rfl) (by as_aux_lemma => kernel_rfl) (fun _ _ _ h => h) (Or.inl ⟨by rfl, ?_⟩) (by assumption) ?_
        rotate_left
        · intro W hSW; (try dsimp only at hSW); go_simp; try with_reducible rfl
        try simp only [Act.put, List.setIfInBounds_toArray, List.set_cons_zero, List.set_cons_succ]
        refine wpAnyH_take (i := 11) (oi := { dst := some 191, op := Op.move (Operand.tmp 190), type := 4, pos := "law.go:115", after := #[{ on := 10, ground := Ground.data }, { on := 9, ground := Ground.chain }], guard := none }) (v := ?_) rfl (by as_aux_lemma => kernel_rfl) (by as_aux_lemma => kernel_rfl) (by as_aux_lemma => kernel_rfl) (fun _ _ _ h => h) (Or.inl ⟨by rfl, ?_⟩) (by assumption) ?_
        rotate_left
        · intro W hSW; (try dsimp only at hSW); go_simp; try with_reducible rfl
        try simp only [Act.put, List.setIfInBounds_toArray, List.set_cons_zero, List.set_cons_succ]
        refine wpAnyH_take (i := 12) (oi := { dst := some 192, op := Op.move (Operand.tmp 9), type := 9, pos := "law.go:115", after := #[{ on := 11, ground := Ground.guard }], guard := some (11, true) }) (v := ?_) rfl (by as_aux_lemma => kernel_rfl) (by as_aux_lemma => kernel_rfl) (by as_aux_lemma => kernel_rfl) (fun _ _ _ h => h) (Or.inl ⟨by rfl, ?_⟩) (by assumption) ?_
        rotate_left
        · intro W hSW; (try dsimp only at hSW); go_simp; try with_reducible rfl
        try simp only [Act.put, List.setIfInBounds_toArray, List.set_cons_zero, List.set_cons_succ]
        refine wpAnyH_take (i := 13) (oi := { dst := some 193, op := Op.slice 9 (Operand.tmp 192) (some (Operand.const (Value.int IntKind.i64 1))) none none, type := 9, pos := "law.go:115", after := #[{ on := 12, ground := Ground.data }, { on := 11, ground := Ground.guard }], guard := some (11, true) }) (v := ?_) rfl (by as_aux_lemma => kernel_rfl) (by as_aux_lemma => kernel_rfl) (by as_aux_lemma => kernel_rfl) (fun _ _ _ h => h) (Or.inl ⟨by rfl, ?_⟩) (by assumption) ?_
        rotate_left
        · intro W hSW; (try dsimp only at hSW); go_simp; try with_reducible rfl
        try simp only [Act.put, List.setIfInBounds_toArray, List.set_cons_zero, List.set_cons_succ]
        refine wpAnyH_take (i := 14) (oi := { dst := some 194, op := Op.move (Operand.tmp 9), type := 9, pos := "law.go:115", after := #[{ on := 11, ground := Ground.guard }], guard := some (11, true) }) (v := ?_) rfl (by as_aux_lemma => kernel_rfl) (by as_aux_lemma => kernel_rfl) (by as_aux_lemma => kernel_rfl) (fun _ _ _ h => h) (Or.inl ⟨by rfl, ?_⟩) (by assumption) ?_
        rotate_left
        · intro W hSW; (try dsimp only at hSW); go_simp; try with_reducible rfl
        try simp only [Act.put, List.setIfInBounds_toArray, List.set_cons_zero, List.set_cons_succ]
        refine wpAnyH_take (i := 15) (oi := { dst := some 195, op := Op.slice 9 (Operand.tmp 194) (some (Operand.const (Value.int IntKind.i64 1))) none none, type := 9, pos := "law.go:115", after := #[{ on := 14, ground := Ground.data }, { on := 11, ground := Ground.guard }], guard := some (11, true) }) (v := ?_) rfl (by as_aux_lemma => kernel_rfl) (by as_aux_lemma => kernel_rfl) (by as_aux_lemma => kernel_rfl) (fun _ _ _ h => h) (Or.inl ⟨by rfl, ?_⟩) (by assumption) ?_
        rotate_left
        · intro W hSW; (try dsimp only at hSW); go_simp; try with_reducible rfl
        try simp only [Act.put, List.setIfInBounds_toArray, List.set_cons_zero, List.set_cons_succ]
        refine wpAnyH_take (i := 17) (oi := { dst := some 197, op := Op.build 33 #[], type := 33, pos := "law.go:115", after := #[{ on := 11, ground := Ground.guard }], guard := some (11, true) }) (v := ?_) rfl (by as_aux_lemma => kernel_rfl) (by as_aux_lemma => kernel_rfl) (by as_aux_lemma => kernel_rfl) (fun _ _ _ h => h) (Or.inl ⟨by rfl, ?_⟩) (by assumption) ?_
        rotate_left
        · intro W hSW; (try dsimp only at hSW); go_simp; try with_reducible rfl
        try simp only [Act.put, List.setIfInBounds_toArray, List.set_cons_zero, List.set_cons_succ]
        refine wpAnyH_ready (rs := [16]) (by as_aux_lemma => kernel_rfl) (by simp) ?_
        refine AllReadyH.cons (o := { dst := some 196, op := Op.call { callee := Callee.value (Operand.func 7), args := #[Operand.tmp 193, Operand.tmp 195], argTypes := #[9, 9] }, type := 23, pos := "law.go:115", after := #[{ on := 13, ground := Ground.data }, { on := 15, ground := Ground.data }, { on := 11, ground := Ground.chain }, { on := 11, ground := Ground.guard }], guard := some (11, true) }) rfl (fun K hK => ?_) AllReadyH.nil
        go_simp
        (go_at_call 7; (refine (ofRange_any _ _ _).mono ?_); rintro x y5 ⟨rfl, b5⟩; have DV := below_next DV b5; clear b5)
        go_wp2_with fail
        refine hK.out _ _ ?_ (fun hHeld => ?_)
        · exact trivial
        clear hK K
        try simp only [Act.put, List.setIfInBounds_toArray, List.set_cons_zero, List.set_cons_succ]
        refine wpAnyH_ready (rs := [18]) (by as_aux_lemma => kernel_rfl) (by simp) ?_
        refine AllReadyH.cons (o := { dst := some 198, op := Op.call { callee := Callee.value (Operand.func 16), args := #[Operand.tmp 196, Operand.tmp 197, Operand.const (Value.string { data := #[120] })], argTypes := #[23, 33, 9] }, type := 4, pos := "law.go:115", after := #[{ on := 16, ground := Ground.data }, { on := 17, ground := Ground.data }, { on := 16, ground := Ground.chain }, { on := 11, ground := Ground.guard }], guard := some (11, true) }) rfl (fun K hK => ?_) AllReadyH.nil
        go_simp
        (go_at_call 16; (refine (HT3.out _ _).mono ?_); rintro x y6 ⟨rfl, b6⟩; have DV := below_next DV b6; clear b6)
        go_wp2_with fail
        refine hK.out _ _ ?_ (fun hHeld => ?_)
        · exact trivial
        clear hK K
        try simp only [Act.put, List.setIfInBounds_toArray, List.set_cons_zero, List.set_cons_succ]
        refine wpAnyH_take (i := 19) (oi := { dst := some 199, op := Op.pick (Operand.tmp 191) (Operand.tmp 198) (Operand.const (Value.bool false)), type := 4, pos := "law.go:115", after := #[{ on := 11, ground := Ground.data }, { on := 18, ground := Ground.data }], guard := none }) (v := ?_) rfl (by as_aux_lemma => kernel_rfl) (by as_aux_lemma => kernel_rfl) (by as_aux_lemma => kernel_rfl) (fun _ _ _ h => h) (Or.inl ⟨by rfl, ?_⟩) (by assumption) ?_
        rotate_left
        · intro W hSW; (try dsimp only at hSW); go_simp; try with_reducible rfl
        try simp only [Act.put, List.setIfInBounds_toArray, List.set_cons_zero, List.set_cons_succ]
        refine wpAnyH_take (i := 20) (oi := { dst := some 200, op := Op.move (Operand.tmp 199), type := 4, pos := "law.go:115", after := #[{ on := 19, ground := Ground.data }, { on := 18, ground := Ground.chain }], guard := none }) (v := ?_) rfl (by as_aux_lemma => kernel_rfl) (by as_aux_lemma => kernel_rfl) (by as_aux_lemma => kernel_rfl) (fun _ _ _ h => h) (Or.inl ⟨by rfl, ?_⟩) (by assumption) ?_
        rotate_left
        · intro W hSW; (try dsimp only at hSW); go_simp; try with_reducible rfl
        try simp only [Act.put, List.setIfInBounds_toArray, List.set_cons_zero, List.set_cons_succ]
        refine wpAnyH_ready (rs := [21]) (by as_aux_lemma => kernel_rfl) (by simp) ?_
        refine AllReadyH.cons (o := { dst := some 201, op := Op.call { callee := Callee.value (Operand.func 8), args := #[Operand.const (Value.int IntKind.i64 0), Operand.const (Value.int IntKind.i64 9)], argTypes := #[2, 2] }, type := 23, pos := "law.go:115", after := #[{ on := 20, ground := Ground.chain }, { on := 20, ground := Ground.guard }], guard := some (20, true) }) rfl (fun K hK => ?_) AllReadyH.nil
        go_simp
        (go_at_call 8; (refine (ofEnds_any 0 9 _).mono ?_); rintro x y7 ⟨rfl, b7⟩; have DV := below_next DV b7; clear b7)
        go_wp2_with fail
        refine hK.out _ _ ?_ (fun hHeld => ?_)
        · exact trivial
        clear hK K
        try simp only [Act.put, List.setIfInBounds_toArray, List.set_cons_zero, List.set_cons_succ]
        refine wpAnyH_ready (rs := [22]) (by as_aux_lemma => kernel_rfl) (by simp) ?_
        refine AllReadyH.cons (o := { dst := some 202, op := Op.call { callee := Callee.value (Operand.func 4), args := #[Operand.tmp 201, Operand.const (Value.slice none 0 0)], argTypes := #[23, 29] }, type := 4, pos := "law.go:115", after := #[{ on := 21, ground := Ground.data }, { on := 21, ground := Ground.chain }, { on := 20, ground := Ground.guard }], guard := some (20, true) }) rfl (fun K hK => ?_) AllReadyH.nil
        go_simp
        (go_at_call 4; (refine (HT4.out _).mono ?_); rintro x y8 ⟨rfl, b8⟩; have DV := below_next DV b8; clear b8)
        go_wp2_with fail
        refine hK.out _ _ ?_ (fun hHeld => ?_)
        · exact trivial
        clear hK K
        try simp only [Act.put, List.setIfInBounds_toArray, List.set_cons_zero, List.set_cons_succ]
        refine wpAnyH_take (i := 23) (oi := { dst := some 203, op := Op.pick (Operand.tmp 200) (Operand.tmp 202) (Operand.const (Value.bool false)), type := 4, pos := "law.go:115", after := #[{ on := 20, ground := Ground.data }, { on := 22, ground := Ground.data }], guard := none }) (v := ?_) rfl (by as_aux_lemma => kernel_rfl) (by as_aux_lemma => kernel_rfl) (by as_aux_lemma => kernel_rfl) (fun _ _ _ h => h) (Or.inl ⟨by rfl, ?_⟩) (by assumption) ?_
        rotate_left
        · intro W hSW; (try dsimp only at hSW); go_simp; try with_reducible rfl
        try simp only [Act.put, List.setIfInBounds_toArray, List.set_cons_zero, List.set_cons_succ]
        refine wpAnyH_take (i := 24) (oi := { dst := some 204, op := Op.move (Operand.tmp 203), type := 4, pos := "law.go:115", after := #[{ on := 23, ground := Ground.data }, { on := 22, ground := Ground.chain }], guard := none }) (v := ?_) rfl (by as_aux_lemma => kernel_rfl) (by as_aux_lemma => kernel_rfl) (by as_aux_lemma => kernel_rfl) (fun _ _ _ h => h) (Or.inl ⟨by rfl, ?_⟩) (by assumption) ?_
        rotate_left
        · intro W hSW; (try dsimp only at hSW); go_simp; try with_reducible rfl
        try simp only [Act.put, List.setIfInBounds_toArray, List.set_cons_zero, List.set_cons_succ]
        refine wpAnyH_ready (rs := [25]) (by as_aux_lemma => kernel_rfl) (by simp) ?_
        refine AllReadyH.cons (o := { dst := some 205, op := Op.call { callee := Callee.value (Operand.func 9), args := #[], argTypes := #[] }, type := 4, pos := "law.go:115", after := #[{ on := 24, ground := Ground.chain }, { on := 24, ground := Ground.guard }], guard := some (24, true) }) rfl (fun K hK => ?_) AllReadyH.nil
        go_simp
        (go_at_call 9; (refine (works_any _).mono ?_); rintro x y9 ⟨rfl, b9⟩; have DV := below_next DV b9; clear b9)
        go_wp2_with fail
        refine hK.out _ _ ?_ (fun hHeld => ?_)
        · exact trivial
        clear hK K
        try simp only [Act.put, List.setIfInBounds_toArray, List.set_cons_zero, List.set_cons_succ]
        refine wpAnyH_take (i := 26) (oi := { dst := some 206, op := Op.pick (Operand.tmp 204) (Operand.tmp 205) (Operand.const (Value.bool false)), type := 4, pos := "law.go:115", after := #[{ on := 24, ground := Ground.data }, { on := 25, ground := Ground.data }], guard := none }) (v := ?_) rfl (by as_aux_lemma => kernel_rfl) (by as_aux_lemma => kernel_rfl) (by as_aux_lemma => kernel_rfl) (fun _ _ _ h => h) (Or.inl ⟨by rfl, ?_⟩) (by assumption) ?_
        rotate_left
        · intro W hSW; (try dsimp only at hSW); go_simp; try with_reducible rfl
        try simp only [Act.put, List.setIfInBounds_toArray, List.set_cons_zero, List.set_cons_succ]
        refine wpAnyH_take (i := 27) (oi := { dst := some 0, op := Op.assign (Operand.tmp 206), type := 4, pos := "law.go:115", after := #[{ on := 26, ground := Ground.data }, { on := 25, ground := Ground.chain }, { on := 0, ground := Ground.phase }, { on := 1, ground := Ground.phase }, { on := 2, ground := Ground.phase }, { on := 3, ground := Ground.phase }, { on := 4, ground := Ground.phase }, { on := 5, ground := Ground.phase }, { on := 6, ground := Ground.phase }, { on := 7, ground := Ground.phase }, { on := 8, ground := Ground.phase }, { on := 9, ground := Ground.phase }, { on := 10, ground := Ground.phase }, { on := 11, ground := Ground.phase }, { on := 12, ground := Ground.phase }, { on := 13, ground := Ground.phase }, { on := 14, ground := Ground.phase }, { on := 15, ground := Ground.phase }, { on := 16, ground := Ground.phase }, { on := 17, ground := Ground.phase }, { on := 18, ground := Ground.phase }, { on := 19, ground := Ground.phase }, { on := 20, ground := Ground.phase }, { on := 21, ground := Ground.phase }, { on := 22, ground := Ground.phase }, { on := 23, ground := Ground.phase }, { on := 24, ground := Ground.phase }, { on := 25, ground := Ground.phase }, { on := 26, ground := Ground.phase }], guard := none }) (v := ?_) rfl (by as_aux_lemma => kernel_rfl) (by as_aux_lemma => kernel_rfl) (by as_aux_lemma => kernel_rfl) (fun _ _ _ h => h) (Or.inl ⟨by rfl, ?_⟩) (by assumption) ?_
        rotate_left
        · intro W hSW; (try dsimp only at hSW); go_simp; try with_reducible rfl
        try simp only [Act.put, List.setIfInBounds_toArray, List.set_cons_zero]
        refine wpAnyH_done (by as_aux_lemma => kernel_rfl) ?_ _
        go_wp2_with fail
        go_ret
        exact ⟨rfl, below_next HA.out DV⟩
end Go.Proofs.Ytponelbfddfliaa

namespace Go.Proofs.Ytponelbfddfliaa
open Go.ChangeShapes Go.WideShapes Go.ChangeAt Go.RowKit

theorem Try.own : ownKnob Try.prog.godebug = none := by kernel_rfl
theorem Try.laidOut : laidOutB Try.prog = true := by kernel_rfl

theorem byte_wf {n : Int} (h : (Lit.int .u8 n).wf = true) : 0 ≤ n ∧ n < 256 := by
  simp [Lit.wf, IntKind.min, IntKind.max, IntKind.signed, IntKind.bits] at h
  omega
theorem u32_wf {n : Int} (h : (Lit.int .u32 n).wf = true) : 0 ≤ n ∧ n < 4294967296 := by
  simp [Lit.wf, IntKind.min, IntKind.max, IntKind.signed, IntKind.bits] at h
  omega
theorem u64_wf {n : Int} (h : (Lit.int .u64 n).wf = true) : 0 ≤ n ∧ n < 18446744073709551616 := by
  simp [Lit.wf, IntKind.min, IntKind.max, IntKind.signed, IntKind.bits] at h
  omega
theorem i64_wf {n : Int} (h : (Lit.int .i64 n).wf = true) : -9223372036854775808 ≤ n ∧ n ≤ 9223372036854775807 := by
  simp [Lit.wf, IntKind.min, IntKind.max, IntKind.signed, IntKind.bits] at h
  omega
end Go.Proofs.Ytponelbfddfliaa

namespace Go.Proofs.Ytponelbfddfliaa
open Go.ChangeShapes Go.WideShapes Go.ChangeAt Go.RowKit
open Go.ChangeMaps (open_string shut_string)

set_option maxRecDepth 100000 in
theorem boundKnown_lifted (os : Os) (started : os.Started) (H : Type) (enc : TypeId × Value → H) :
    ReturnsInHanded {} Try.checked os 5 .any (Rows.boundKnownSpec.pre6 enc Try.prog Try.f5 Rows.boundKnownRow.domain false) (Rows.boundKnownSpec.post enc Try.prog Try.f5 false true false false) := by
  refine returnsInHanded_of_change (C := Try.checked) Try.own started (by kernel_rfl) Try.func5
    (ChangeSpec.witness6 (enc := enc) (C := Try.checked) false ⟨#[], #[], []⟩ 8 (by kernel_rfl) (by kernel_rfl) (by kernel_rfl) (by kernel_rfl)) ?_
  intro W base args ds gs before hval0 hW hcnd _
  have hW' := hW
  obtain ⟨p, q, hA0, hV, rfl, hfz, hnd⟩ := hW
  have hA : DataW.TrodAll enc Try.prog W 0 (fun _ => true) true Try.f5.params.toList args.toList ds p := hA0
  rw [Try.params5] at hA
  obtain ⟨hargs, rfl, rfl⟩ := trodAll_nil hA
  obtain rfl : args = #[] := by cases args; simp_all
  obtain ⟨rfl, rfl⟩ := trodVars_none hV
  clear hA0 hval0
  refine (boundKnown_any W).mono fun e W' ⟨he, bel⟩ => ?_
  subst he
  exact ⟨_, rfl, _, _, _, [], _, [], hW', trodAll_mk1 (shut_bool Try.underlying4 _), trodAll_mk0, rfl, bel.frame _, fun h => by cases h⟩

theorem boundKnown_holds : Rows.BoundKnownSaid :=
  OpenClaim.holds_of_wide 5 Try.f5 rfl rfl rfl rfl rfl rfl rfl ⟨rfl, rfl, rfl, rfl, rfl⟩ rfl rfl rfl rfl rfl (by kernel_rfl) Try.func5 (by kernel_rfl)
    (of_decide_eq_true (by kernel_rfl)) (by unfold Func.isWrapper; first | (rw [if_pos (by decide +kernel)]; kernel_rfl) | (rw [if_neg (by decide +kernel)]; exact ⟨rfl, rfl⟩))
    (fun os started H enc _ => boundKnown_lifted os started H enc)
#print axioms boundKnown_holds
end Go.Proofs.Ytponelbfddfliaa
