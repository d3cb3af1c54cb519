/- Layer 10, the program: a filter's bounds. Made by tools/gen/bof.py. -/
import Derived.Test.YtponelbfddfliaaBoC
import Derived.Test.YtponelbfddfliaaKeyE
import Derived.Test.YtponelbfddfliaaHeld
namespace Go.Proofs.Ytponelbfddfliaa
open Go.ChangeShapes Go.WideShapes Go.ChangeAt Go.RowKit

/-- The texts between which the rows of a filter's panes lie. -/
def Fl.from (f : Fl) : List Nat := if f.right then (if f.k = 1 then Ky.put (tos [⟨2, 0, f.K⟩, ⟨1, f.l, ⟨#[]⟩⟩]) else if f.k = 2 then Ky.put (tos [⟨2, 0, f.K⟩]) else Ky.put (tos [⟨1, f.l, ⟨#[]⟩⟩])) else [0]
def Fl.upto (f : Fl) : List Nat := if f.right then (if f.k = 1 then (Ky.after (Ky.put (tos [⟨2, 0, f.K⟩, ⟨1, f.l, ⟨#[]⟩⟩]))).getD [] else if f.k = 2 then (if f.T.toList.isEmpty then [] else Ky.put (tos [⟨2, 0, f.T⟩])) else Ky.put (tos [⟨1, f.m, ⟨#[]⟩⟩])) else [0]
def TwoP (w : World) (a b : List Nat) (e : Ending) (w' : World) : Prop := ∃ U V : ByteArray, e = .returned (.tuple #[.string U, .string V]) ∧ nums U = a ∧ nums V = b ∧ Below w.heap.size w w'
theorem esc_len2 (t : List Nat) : (Ky.esc t).length ≤ 2 * t.length := by
  induction t with
  | nil => simp [Ky.esc]
  | cons x t ih =>
    unfold Ky.esc
    split
    · simp only [List.length_cons]; omega
    · simp only [List.length_cons]; omega
theorem two_len (s : ByteArray) (n : Int) : (Ky.put (tos [⟨2, 0, s⟩, ⟨1, n, ⟨#[]⟩⟩])).length ≤ 2 * s.size + 10 := by
  have h := esc_len2 (nums s)
  rw [nums_len] at h
  show (Ky.text (nums s) ++ (Pk.be 8 (Ky.turn n) ++ [])).length ≤ _
  unfold Ky.text
  simp only [List.length_append, List.length_cons, List.length_nil, Pk.be_len]
  omega
theorem one_text_ok (s : ByteArray) (h : s.size ≤ 1000000) : ∀ p ∈ [PT.mk 2 0 s], p.ok := by
  intro p hp
  obtain rfl := List.mem_singleton.1 hp
  exact ⟨by show (2 : Nat) < 256; decide, by show _ ≤ (0 : Int) ∧ (0 : Int) ≤ _; omega, h⟩
theorem one_int_ok (n : Int) (h : i64ok n) : ∀ p ∈ [PT.mk 1 n ⟨#[]⟩], p.ok := by
  intro p hp
  obtain rfl := List.mem_singleton.1 hp
  exact ⟨by show (1 : Nat) < 256; decide, h, by show (0 : Nat) ≤ _; omega⟩
theorem two_ok (s : ByteArray) (n : Int) (h : s.size ≤ 1000000) (h2 : i64ok n) : ∀ p ∈ [PT.mk 2 0 s, PT.mk 1 n ⟨#[]⟩], p.ok := by
  intro p hp
  rcases List.mem_cons.1 hp with rfl | hp
  · exact one_text_ok s h _ (List.mem_singleton.2 rfl)
  · exact one_int_ok n h2 p hp
set_option maxHeartbeats 400000 in
theorem btext_any (s : ByteArray) (w : World) : Calls Try.prog 47 #[.string s] w (PartP w (partV 2 0 s)) := by
  go_enter Try.func47, Try.ntmps47
  go_wp2_with fail
  refine bodyPost_ret (v := partV 2 0 s) ?_ rfl ⟨rfl, ?_⟩
  · simp [results, Try.results47, go_sem, partV]
  · exact (Below.refl _ _).alloc (Nat.le_refl _) _
set_option maxHeartbeats 400000 in
theorem bnumber_any (n : Int) (w : World) : Calls Try.prog 48 #[.int .i64 n] w (PartP w (partV 1 n ⟨#[]⟩)) := by
  go_enter Try.func48, Try.ntmps48
  go_wp2_with fail
  refine bodyPost_ret (v := partV 1 n ⟨#[]⟩) ?_ rfl ⟨rfl, ?_⟩
  · simp [results, Try.results48, go_sem, partV]
  · exact (Below.refl _ _).alloc (Nat.le_refl _) _
set_option maxRecDepth 100000 in
set_option maxHeartbeats 2000000 in
theorem bounds1_any (J T : ByteArray) (l m : Int) (w : World) (hr : (Fl.mk 1 J T l m).right = true) (hJ : J.size ≤ 1000) (hT : T.size ≤ 1000) (hl : i64ok l) (hm : i64ok m) : Calls Try.prog 28 #[.agg #[.int .u8 1, .string J, .string T, .int .i64 l, .int .i64 m]] w (TwoP w (Fl.mk 1 J T l m).from (Fl.mk 1 J T l m).upto) := by
  have hf : (Fl.mk 1 J T l m).from = Ky.put (tos [⟨2, 0, J⟩, ⟨1, l, ⟨#[]⟩⟩]) := by unfold Fl.from; rw [if_pos hr]; rfl
  have hu : (Fl.mk 1 J T l m).upto = (Ky.after (Ky.put (tos [⟨2, 0, J⟩, ⟨1, l, ⟨#[]⟩⟩]))).getD [] := by unfold Fl.upto; rw [if_pos hr]; rfl
  rw [hf, hu]
  clear hf hu
  obtain ⟨w0, hw0⟩ : ∃ w0, w.alloc (.cells #[.int .u8 1, .string J, .string T, .int .i64 l, .int .i64 m] 23) = w0 := ⟨_, rfl⟩
  have hbk := Blk.new w 23 #[.int .u8 1, .string J, .string T, .int .i64 l, .int .i64 m]
  have hbe : Below w.heap.size w (w.alloc (.cells #[.int .u8 1, .string J, .string T, .int .i64 l, .int .i64 m] 23)) := (Below.refl _ _).alloc (Nat.le_refl _) _
  have hz : (w.alloc (.cells #[.int .u8 1, .string J, .string T, .int .i64 l, .int .i64 m] 23)).heap.size = w.heap.size + 1 := by simp
  rw [hw0] at hbk hbe hz
  have HC : Hid (∀ W, Below w0.heap.size w0 W → (W.cell? ⟨w.heap.size, 0, none⟩ = some (.int .u8 1) ∧ W.cell? ⟨w.heap.size, 1, none⟩ = some (.string J) ∧ W.cell? ⟨w.heap.size, 2, none⟩ = some (.string T) ∧ W.cell? ⟨w.heap.size, 3, none⟩ = some (.int .i64 l) ∧ W.cell? ⟨w.heap.size, 4, none⟩ = some (.int .i64 m))) := Lib.hid fun W hW => by
    have hb := hbk.below hW (by omega)
    exact ⟨hb.cell 0, hb.cell 1, hb.cell 2, hb.cell 3, hb.cell 4⟩
  have HBE := Lib.hid hbe
  have HOK := Lib.hid (And.intro (And.intro hJ hT) (And.intro hl hm))
  have HR := Lib.hid (fun W => right_any (Fl.mk 1 J T l m) W)
  rw [hr] at HR
  unfold Fl.val at HR
  dsimp only at HR
  clear hbk hbe hz hr hJ hT hl hm
  go_enter Try.func28, Try.ntmps28
  obtain ⟨c0, c1, c2, c3, c4⟩ := HC.out w0 (Below.refl _ _)
  go_wp2_with fail
  clear hw0 c0 c1 c2 c3 c4
  refine (HR.out _).mono ?_
  rintro e w1 ⟨rfl, b1⟩
  obtain ⟨c0, c1, c2, c3, c4⟩ := HC.out w1 b1
  have B1 := Lib.hid b1
  clear b1
  go_wp2_with fail
  clear c0 c1 c2 c3 c4
  have D0 := B1.out.drew
  go_region_held3 (fun W => (W.cell? ⟨w.heap.size, 0, none⟩ = some (.int .u8 1) ∧ W.cell? ⟨w.heap.size, 1, none⟩ = some (.string J) ∧ W.cell? ⟨w.heap.size, 2, none⟩ = some (.string T) ∧ W.cell? ⟨w.heap.size, 3, none⟩ = some (.int .i64 l) ∧ W.cell? ⟨w.heap.size, 4, none⟩ = some (.int .i64 m))) (first | with_reducible exact HC.out _ D0 | with_reducible exact HC.out _ D1 | with_reducible exact HC.out _ (D1.alloc D1.size _) | with_reducible exact HC.out _ D2 | with_reducible exact HC.out _ (D2.alloc D2.size _) | with_reducible exact HC.out _ D3 | with_reducible exact HC.out _ (D3.alloc D3.size _) | with_reducible exact HC.out _ D4) (first
    | (go_at_call 34; have _ := D2; (refine (put_any 2 2 _ _ [⟨2, 0, J⟩, ⟨1, l, ⟨#[]⟩⟩] _ ((parts_lit _ _ [⟨2, 0, J⟩, ⟨1, l, ⟨#[]⟩⟩] 2 _ (by rfl) (two_ok J l (Nat.le_trans HOK.out.1.1 (by omega)) HOK.out.2.1) rfl).more (Nat.le_refl _)) (by simp) (by omega)).mono ?_); rintro x v3 ⟨U, rfl, hU, hsU, d3⟩; have HU := Lib.hid hU; have D3 := (D2.alloc D2.size _).trans (d3.mono (by have := D2.size; simp; omega)); clear D2 d3 hU hsU)
    | (go_at_call 48; have _ := D1; (refine (bnumber_any l _).mono ?_); rintro x v2 ⟨rfl, d2⟩; simp only [partV]; have D2 := below_next D1 d2; clear D1 d2)
    | (go_at_call 47; have _ := D0; (refine (btext_any J _).mono ?_); rintro x v1 ⟨rfl, d1⟩; simp only [partV]; have D1 := below_next D0 d1; clear D0 d1))
  have hUs : U.size ≤ 1000000 := by
    have e : (nums U).length = U.size := nums_len U
    rw [HU.out] at e
    have h1 := two_len J l
    have h2 := HOK.out.1.1
    omega
  go_wp2_with fail
  refine (after_any U _ hUs).mono ?_
  rintro e v4 ⟨V, rfl, hV, d4⟩
  have HV := Lib.hid hV
  clear hV
  go_wp2_with fail
  go_ret2
  exact ⟨U, V, rfl, HU.out, by rw [HV.out, HU.out], HBE.out.trans ((below_next D3 d4).mono HBE.out.size)⟩
set_option maxRecDepth 100000 in
set_option maxHeartbeats 2000000 in
theorem bounds2_any (J T : ByteArray) (l m : Int) (w : World) (hr : (Fl.mk 2 J T l m).right = true) (hJ : J.size ≤ 1000) (hT : T.size ≤ 1000) (hl : i64ok l) (hm : i64ok m) : Calls Try.prog 28 #[.agg #[.int .u8 2, .string J, .string T, .int .i64 l, .int .i64 m]] w (TwoP w (Fl.mk 2 J T l m).from (Fl.mk 2 J T l m).upto) := by
  have hf : (Fl.mk 2 J T l m).from = Ky.put (tos [⟨2, 0, J⟩]) := by unfold Fl.from; rw [if_pos hr]; rfl
  have hu : (Fl.mk 2 J T l m).upto = (if T.toList.isEmpty then [] else Ky.put (tos [⟨2, 0, T⟩])) := by unfold Fl.upto; rw [if_pos hr]; rfl
  rw [hf, hu]
  clear hf hu
  obtain ⟨w0, hw0⟩ : ∃ w0, w.alloc (.cells #[.int .u8 2, .string J, .string T, .int .i64 l, .int .i64 m] 23) = w0 := ⟨_, rfl⟩
  have hbk := Blk.new w 23 #[.int .u8 2, .string J, .string T, .int .i64 l, .int .i64 m]
  have hbe : Below w.heap.size w (w.alloc (.cells #[.int .u8 2, .string J, .string T, .int .i64 l, .int .i64 m] 23)) := (Below.refl _ _).alloc (Nat.le_refl _) _
  have hz : (w.alloc (.cells #[.int .u8 2, .string J, .string T, .int .i64 l, .int .i64 m] 23)).heap.size = w.heap.size + 1 := by simp
  rw [hw0] at hbk hbe hz
  have HC : Hid (∀ W, Below w0.heap.size w0 W → (W.cell? ⟨w.heap.size, 0, none⟩ = some (.int .u8 2) ∧ W.cell? ⟨w.heap.size, 1, none⟩ = some (.string J) ∧ W.cell? ⟨w.heap.size, 2, none⟩ = some (.string T) ∧ W.cell? ⟨w.heap.size, 3, none⟩ = some (.int .i64 l) ∧ W.cell? ⟨w.heap.size, 4, none⟩ = some (.int .i64 m))) := Lib.hid fun W hW => by
    have hb := hbk.below hW (by omega)
    exact ⟨hb.cell 0, hb.cell 1, hb.cell 2, hb.cell 3, hb.cell 4⟩
  have HBE := Lib.hid hbe
  have HOK := Lib.hid (And.intro (And.intro hJ hT) (And.intro hl hm))
  have HR := Lib.hid (fun W => right_any (Fl.mk 2 J T l m) W)
  rw [hr] at HR
  unfold Fl.val at HR
  dsimp only at HR
  clear hbk hbe hz hr hJ hT hl hm
  obtain ⟨UP, hUP⟩ : ∃ u, (if T.toList.isEmpty then [] else Ky.put (tos [⟨2, 0, T⟩])) = u := ⟨_, rfl⟩
  rw [hUP]
  have HUP := Lib.hid hUP
  clear hUP
  go_enter Try.func28, Try.ntmps28
  obtain ⟨c0, c1, c2, c3, c4⟩ := HC.out w0 (Below.refl _ _)
  go_wp2_with fail
  clear hw0 c0 c1 c2 c3 c4
  refine (HR.out _).mono ?_
  rintro e w1 ⟨rfl, b1⟩
  obtain ⟨c0, c1, c2, c3, c4⟩ := HC.out w1 b1
  have B1 := Lib.hid b1
  clear b1
  go_wp2_with fail
  clear c0 c1 c2 c3 c4
  refine (btext_any J _).mono ?_
  rintro e v1 ⟨rfl, d1⟩
  have D1 := below_next B1.out d1
  simp only [partV]
  clear d1
  go_wp2_with fail
  refine (put_any 1 1 _ _ [⟨2, 0, J⟩] _ ((parts_lit _ _ [⟨2, 0, J⟩] 1 _ (by rfl) (one_text_ok J (Nat.le_trans HOK.out.1.1 (by omega))) rfl).more (Nat.le_refl _)) (by simp) (by omega)).mono ?_
  rintro e v2 ⟨U, rfl, hU, hUs, d2⟩
  have HU := Lib.hid hU
  have D2 := (D1.alloc D1.size _).trans (d2.mono (by have := D1.size; simp; omega))
  clear hU hUs D1 d2
  obtain ⟨c0, c1, c2, c3, c4⟩ := HC.out _ D2
  cases ht : T.toList.isEmpty
  · have n1 : (T.toList == []) = false := by cases h : T.toList <;> simp_all
    have HTT := Lib.hid ht
    clear ht
    go_wp2_with fail
    clear c0 c1 c2 c3 c4
    refine (btext_any T _).mono ?_
    rintro e v3 ⟨rfl, d3⟩
    have D3 := below_next D2 d3
    simp only [partV]
    clear d3
    go_wp2_with fail
    refine (put_any 1 1 _ _ [⟨2, 0, T⟩] _ ((parts_lit _ _ [⟨2, 0, T⟩] 1 _ (by rfl) (one_text_ok T (Nat.le_trans HOK.out.1.2 (by omega))) rfl).more (Nat.le_refl _)) (by simp) (by omega)).mono ?_
    rintro e v4 ⟨V, rfl, hV, hVs, d4⟩
    have HV := Lib.hid hV
    have D4 := (D3.alloc D3.size _).trans (d4.mono (by have := D3.size; simp; omega))
    clear hV hVs D3 d4
    go_wp2_with fail
    go_ret2
    exact ⟨U, V, rfl, HU.out, by rw [HV.out, ← HUP.out, HTT.out]; rfl, HBE.out.trans (D4.mono HBE.out.size)⟩
  · have n1 : (T.toList == []) = true := by cases h : T.toList <;> simp_all
    have HTT := Lib.hid ht
    clear ht
    go_wp2_with fail
    go_ret2
    exact ⟨U, _, rfl, HU.out, by rw [← HUP.out, HTT.out]; rfl, HBE.out.trans (D2.mono HBE.out.size)⟩
set_option maxRecDepth 100000 in
set_option maxHeartbeats 2000000 in
theorem bounds3_any (J T : ByteArray) (l m : Int) (w : World) (hr : (Fl.mk 3 J T l m).right = true) (hJ : J.size ≤ 1000) (hT : T.size ≤ 1000) (hl : i64ok l) (hm : i64ok m) : Calls Try.prog 28 #[.agg #[.int .u8 3, .string J, .string T, .int .i64 l, .int .i64 m]] w (TwoP w (Fl.mk 3 J T l m).from (Fl.mk 3 J T l m).upto) := by
  have hf : (Fl.mk 3 J T l m).from = Ky.put (tos [⟨1, l, ⟨#[]⟩⟩]) := by unfold Fl.from; rw [if_pos hr]; rfl
  have hu : (Fl.mk 3 J T l m).upto = Ky.put (tos [⟨1, m, ⟨#[]⟩⟩]) := by unfold Fl.upto; rw [if_pos hr]; rfl
  rw [hf, hu]
  clear hf hu
  obtain ⟨w0, hw0⟩ : ∃ w0, w.alloc (.cells #[.int .u8 3, .string J, .string T, .int .i64 l, .int .i64 m] 23) = w0 := ⟨_, rfl⟩
  have hbk := Blk.new w 23 #[.int .u8 3, .string J, .string T, .int .i64 l, .int .i64 m]
  have hbe : Below w.heap.size w (w.alloc (.cells #[.int .u8 3, .string J, .string T, .int .i64 l, .int .i64 m] 23)) := (Below.refl _ _).alloc (Nat.le_refl _) _
  have hz : (w.alloc (.cells #[.int .u8 3, .string J, .string T, .int .i64 l, .int .i64 m] 23)).heap.size = w.heap.size + 1 := by simp
  rw [hw0] at hbk hbe hz
  have HC : Hid (∀ W, Below w0.heap.size w0 W → (W.cell? ⟨w.heap.size, 0, none⟩ = some (.int .u8 3) ∧ W.cell? ⟨w.heap.size, 1, none⟩ = some (.string J) ∧ W.cell? ⟨w.heap.size, 2, none⟩ = some (.string T) ∧ W.cell? ⟨w.heap.size, 3, none⟩ = some (.int .i64 l) ∧ W.cell? ⟨w.heap.size, 4, none⟩ = some (.int .i64 m))) := Lib.hid fun W hW => by
    have hb := hbk.below hW (by omega)
    exact ⟨hb.cell 0, hb.cell 1, hb.cell 2, hb.cell 3, hb.cell 4⟩
  have HBE := Lib.hid hbe
  have HOK := Lib.hid (And.intro (And.intro hJ hT) (And.intro hl hm))
  have HR := Lib.hid (fun W => right_any (Fl.mk 3 J T l m) W)
  rw [hr] at HR
  unfold Fl.val at HR
  dsimp only at HR
  clear hbk hbe hz hr hJ hT hl hm
  go_enter Try.func28, Try.ntmps28
  obtain ⟨c0, c1, c2, c3, c4⟩ := HC.out w0 (Below.refl _ _)
  go_wp2_with fail
  clear hw0 c0 c1 c2 c3 c4
  refine (HR.out _).mono ?_
  rintro e w1 ⟨rfl, b1⟩
  obtain ⟨c0, c1, c2, c3, c4⟩ := HC.out w1 b1
  have B1 := Lib.hid b1
  clear b1
  go_wp2_with fail
  clear c0 c1 c2 c3 c4
  have D0 := B1.out.drew
  go_region_held3 (fun W => (W.cell? ⟨w.heap.size, 0, none⟩ = some (.int .u8 3) ∧ W.cell? ⟨w.heap.size, 1, none⟩ = some (.string J) ∧ W.cell? ⟨w.heap.size, 2, none⟩ = some (.string T) ∧ W.cell? ⟨w.heap.size, 3, none⟩ = some (.int .i64 l) ∧ W.cell? ⟨w.heap.size, 4, none⟩ = some (.int .i64 m))) (first | with_reducible exact HC.out _ D0 | with_reducible exact HC.out _ D1 | with_reducible exact HC.out _ (D1.alloc D1.size _) | with_reducible exact HC.out _ D2 | with_reducible exact HC.out _ (D2.alloc D2.size _) | with_reducible exact HC.out _ D3 | with_reducible exact HC.out _ (D3.alloc D3.size _) | with_reducible exact HC.out _ D4) (first
    | (go_at_call 34; have _ := D3; (refine (put_any 1 1 _ _ [⟨1, m, ⟨#[]⟩⟩] _ ((parts_lit _ _ [⟨1, m, ⟨#[]⟩⟩] 1 _ (by rfl) (one_int_ok m HOK.out.2.2) rfl).more (Nat.le_refl _)) (by simp) (by omega)).mono ?_); rintro x v4 ⟨V, rfl, hV, hsV, d4⟩; have HV := Lib.hid hV; have D4 := (D3.alloc D3.size _).trans (d4.mono (by have := D3.size; simp; omega)); clear D3 d4 hV hsV)
    | (go_at_call 48; have _ := D2; (refine (bnumber_any m _).mono ?_); rintro x v3 ⟨rfl, d3⟩; simp only [partV]; have D3 := below_next D2 d3; clear D2 d3)
    | (go_at_call 34; have _ := D1; (refine (put_any 1 1 _ _ [⟨1, l, ⟨#[]⟩⟩] _ ((parts_lit _ _ [⟨1, l, ⟨#[]⟩⟩] 1 _ (by rfl) (one_int_ok l HOK.out.2.1) rfl).more (Nat.le_refl _)) (by simp) (by omega)).mono ?_); rintro x v2 ⟨U, rfl, hU, hsU, d2⟩; have HU := Lib.hid hU; have D2 := (D1.alloc D1.size _).trans (d2.mono (by have := D1.size; simp; omega)); clear D1 d2 hU hsU)
    | (go_at_call 48; have _ := D0; (refine (bnumber_any l _).mono ?_); rintro x v1 ⟨rfl, d1⟩; simp only [partV]; have D1 := below_next D0 d1; clear D0 d1))
  go_wp2_with fail
  go_ret2
  exact ⟨U, V, rfl, HU.out, HV.out, HBE.out.trans (D4.mono HBE.out.size)⟩
set_option maxRecDepth 100000 in
set_option maxHeartbeats 1000000 in
theorem bounds_any (f : Fl) (w : World) (hf : f.ok) (hK : f.K.size ≤ 1000) (hT : f.T.size ≤ 1000) : Calls Try.prog 28 #[f.val] w (TwoP w f.from f.upto) := by
  cases hr : f.right
  · have e1 : f.from = [0] := by unfold Fl.from; rw [hr]; rfl
    have e2 : f.upto = [0] := by unfold Fl.upto; rw [hr]; rfl
    rw [e1, e2]
    have HR := Lib.hid (fun W => right_any f W)
    rw [hr] at HR
    obtain ⟨k, J, T, l, m⟩ := f
    unfold Fl.val at HR ⊢
    dsimp only at HR ⊢
    clear hr hf hK hT e1 e2
    go_enter Try.func28, Try.ntmps28
    go_wp2_with fail
    refine (HR.out _).mono ?_
    rintro e w1 ⟨rfl, b1⟩
    go_wp2_with fail
    go_ret2
    exact ⟨_, _, rfl, rfl, rfl, ((Below.refl _ _).alloc (Nat.le_refl _) _).trans (b1.mono (by simp))⟩
  · obtain ⟨k, J, T, l, m⟩ := f
    have hk : k = 1 ∨ k = 2 ∨ k = 3 := by
      unfold Fl.right at hr
      dsimp only at hr
      by_cases h1 : k = 1
      · exact .inl h1
      · by_cases h2 : k = 2
        · exact .inr (.inl h2)
        · by_cases h3 : k = 3
          · exact .inr (.inr h3)
          · rw [if_neg h1, if_neg h2, if_neg h3] at hr; cases hr
    rcases hk with rfl | rfl | rfl
    · exact bounds1_any J T l m w hr hK hT hf.2.1 hf.2.2
    · exact bounds2_any J T l m w hr hK hT hf.2.1 hf.2.2
    · exact bounds3_any J T l m w hr hK hT hf.2.1 hf.2.2
end Go.Proofs.Ytponelbfddfliaa
