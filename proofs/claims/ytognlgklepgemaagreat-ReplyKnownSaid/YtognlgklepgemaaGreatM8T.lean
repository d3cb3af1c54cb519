/- Layer 8, the program: a reply, parsed. -/
import Derived.Test.YtognlgklepgemaaGreatRpQ
import Derived.Test.YtognlgklepgemaaGreatRpI
import Derived.Test.YtognlgklepgemaaGreatRpR
import Derived.Test.YtognlgklepgemaaGreatM8P
namespace Go.Proofs.YtognlgklepgemaaGreat
open Go.ChangeShapes Go.WideShapes Go.ChangeAt Go.RowKit

namespace Rp
/-- What is left to a reader, and whether it has failed. -/
abbrev St := List Nat × Bool
def nx (s : St) (k : Nat) : St := (Pk.left s.2 s.1 k, Pk.fails s.2 s.1 k)
def vl (s : St) (k : Nat) : Nat := Pk.num (Pk.taken s.2 s.1 k)
def tx (s : St) : St := (Pk.tleft s.2 s.1, Pk.tfails s.2 s.1)
def tt (s : St) : ByteArray := textOf (Pk.ttaken s.2 s.1)
def tPane (s : St) : Pn × St := (⟨tt s, sg (vl (tx s) 8), sg (vl (nx (tx s) 8) 8)⟩, nx (nx (tx s) 8) 8)
def tAgg (s : St) : Ag.A × St := (⟨sg (vl s 8), sg (vl (nx s 8) 8), sg (vl (nx (nx s 8) 8) 8), sg (vl (nx (nx (nx s 8) 8) 8) 8)⟩, nx (nx (nx (nx s 8) 8) 8) 8)
def tRow (s : St) : Rw × St := (⟨(tPane s).1, (tAgg (tPane s).2).1⟩, (tAgg (tPane s).2).2)
def tList {α : Type} (f : St → α × St) : Nat → St → List α × St
  | 0, s => ([], s)
  | n + 1, s => ((f s).1 :: (tList f n (f s).2).1, (tList f n (f s).2).2)
theorem tList_snoc {α : Type} (f : St → α × St) (n : Nat) (s : St) : tList f (n + 1) s = ((tList f n s).1 ++ [(f (tList f n s).2).1], (f (tList f n s).2).2) := by
  induction n generalizing s with
  | zero => rfl
  | succ n ih =>
    have h := ih (f s).2
    show ((f s).1 :: (tList f (n + 1) (f s).2).1, (tList f (n + 1) (f s).2).2) = _
    rw [h]
    rfl
theorem tList_len {α : Type} (f : St → α × St) (n : Nat) (s : St) : (tList f n s).1.length = n := by
  induction n generalizing s with
  | zero => rfl
  | succ n ih => show ((f s).1 :: (tList f n (f s).2).1).length = _; rw [List.length_cons, ih]
end Rp
/-- All blocks but readers stay. -/
def StayR (w w' : World) : Prop := (∀ h t cs, t ≠ 136 → Blk w h t cs → Blk w' h t cs) ∧ w.heap.size ≤ w'.heap.size
theorem StayR.trans {a b c : World} (h : StayR a b) (k : StayR b c) : StayR a c := ⟨fun g t cs ht hb => k.1 g t cs ht (h.1 g t cs ht hb), Nat.le_trans h.2 k.2⟩
theorem StayR.below {w w' : World} (h : Below w.heap.size w w') : StayR w w' := ⟨fun _ _ _ _ hb => hb.below h hb.lt, h.size⟩
theorem StayR.grown {w w' : World} {g : Nat} {cs : Array Value} (h : w.grownBy w' (some g)) (hg : Blk w g 136 cs) : StayR w w' :=
  ⟨fun k t ds ht hb => (h.block k hb.lt (fun e => blk_ne hb hg ht (by injection e))).trans hb, h.size⟩
theorem StayR.parts {w w' : World} (h : StayR w w') : Parts w w' := fun g cs hb => h.1 g _ cs (by decide) hb
theorem own_stay {w w' : World} {base e s n : Nat} {v : Value} {xs : List Value} (h : w.ownsRow base e s v n xs) (hs : StayR w w') (he : e ≠ 136) : w'.ownsRow base e s v n xs := by
  refine ⟨h.1, ?_⟩
  rcases h.2 with hn | ⟨g, cap, cur, hv, hb, hg, rest⟩
  · exact .inl hn
  · exact .inr ⟨g, cap, cur, hv, hb, hs.1 g e cur he hg, rest⟩
theorem Rd.blk {w : World} {lo g : Nat} {l : List Nat} {f : Bool} (h : Rd w lo g l f) : ∃ cs, Blk w g 136 cs := by
  obtain ⟨A, n, c, hb, _⟩ := h
  exact ⟨_, hb⟩
/-- A taker at T takes of the reader at g, in a call's own memory; s is left to it. -/
def Tk (w0 W : World) (T g : Nat) (s : Rp.St) (odd : Bool) : Prop :=
  Blk W T 105 #[.pointer (some ⟨g, 0, none⟩), .bool odd] ∧ Rd W w0.heap.size g s.1 s.2 ∧ Below w0.heap.size w0 W ∧ w0.heap.size ≤ g ∧ w0.heap.size ≤ T
theorem Tk.below {w0 W W' : World} {T g : Nat} {s : Rp.St} {odd : Bool} (h : Tk w0 W T g s odd) (b : Below W.heap.size W W') : Tk w0 W' T g s odd :=
  ⟨h.1.below b h.1.lt, h.2.1.below b h.2.1.here, below_next h.2.2.1 b, h.2.2.2⟩
theorem Tk.reads {w0 W W' : World} {T g : Nat} {s s' : Rp.St} {odd : Bool} (h : Tk w0 W T g s odd) (hr : Rd W' w0.heap.size g s'.1 s'.2) (hg : W.grownBy W' (some g)) : Tk w0 W' T g s' odd ∧ StayR W W' := by
  obtain ⟨cs, hb⟩ := h.2.1.blk
  have hs := StayR.grown hg hb
  refine ⟨⟨hs.1 _ _ _ (by decide) h.1, hr, ?_, h.2.2.2⟩, hs⟩
  exact h.2.2.1.trans ⟨hg.os, hg.tape, hg.output, hg.size, fun k hk => hg.block k (by have := h.2.2.1.size; omega) (fun e => by injection e with e; have := h.2.2.2.1; omega)⟩
theorem Tk.cell {w0 W : World} {T g : Nat} {s : Rp.St} {odd : Bool} (h : Tk w0 W T g s odd) : W.cell? ⟨T, 0, none⟩ = some (.pointer (some ⟨g, 0, none⟩)) ∧ W.cell? ⟨T, 1, none⟩ = some (.bool odd) ∧ W.frozen? ⟨T, 1, none⟩ = false := ⟨h.1.cell 0, h.1.cell 1, h.1.frozen 1⟩
theorem Rd.kept {w w' : World} {lo g h : Nat} {l : List Nat} {f : Bool} (hr : Rd w lo g l f) (hg : w.grownBy w' (some h)) (hh : g < h ∨ h < lo) (hlg : lo ≤ g) : Rd w' lo g l f := by
  have hlt := hr.here
  obtain ⟨A, n, c, hb, hy, h1, h2, h3⟩ := hr
  have hblk : ∀ k, lo ≤ k → k ≤ g → w'.heap[k]? = w.heap[k]? := fun k hk1 hk2 => hg.block k (by omega) (fun e => by injection e with e; omega)
  exact ⟨A, n, c, (hblk g (by omega) (Nat.le_refl _)).trans hb, hy.keepIn h3 (fun b o hb1 hb2 => World.cell?_of_block (a := ⟨b, o, none⟩) (hblk b hb1 (by omega))), h1, h2, h3⟩
theorem Tk.set {w0 W : World} {T g P i : Nat} {s : Rp.St} {odd : Bool} (h : Tk w0 W T g s odd) (hP : g < P) (hne : P ≠ T) (u : Value) : Tk w0 (W.setCell ⟨P, i, none⟩ u) T g s odd :=
  ⟨h.1.far hne u, h.2.1.kept (grown_set i u) (.inl hP) h.2.2.2.1, h.2.2.1.setCell (p := ⟨P, i, none⟩) (by show w0.heap.size ≤ P; have := h.2.2.2.1; omega) u, h.2.2.2⟩
theorem Tk.here {w0 W : World} {T g : Nat} {s : Rp.St} {odd : Bool} (h : Tk w0 W T g s odd) : g < W.heap.size := h.2.1.here
theorem Tk.top {w0 W : World} {T g : Nat} {s : Rp.St} {odd : Bool} (h : Tk w0 W T g s odd) : T < W.heap.size := h.1.lt
theorem tk_int {w0 W : World} {T g : Nat} {s : Rp.St} {odd : Bool} (h : Tk w0 W T g s odd) : Calls Tryz.prog 118 #[.pointer (some ⟨g, 0, none⟩)] W fun e W' => e = .returned (.int .i64 (sg (Rp.vl s 8))) ∧ Tk w0 W' T g (Rp.nx s 8) odd ∧ StayR W W' :=
  (int_any _ g s.1 s.2 W h.2.1).mono fun _ _ hp => ⟨hp.1, h.reads (s' := Rp.nx s 8) hp.2.1 hp.2.2⟩
theorem tk_u8 {w0 W : World} {T g : Nat} {s : Rp.St} {odd : Bool} (h : Tk w0 W T g s odd) : Calls Tryz.prog 55 #[.pointer (some ⟨g, 0, none⟩)] W fun e W' => e = .returned (.int .u8 (((Rp.vl s 1 : Nat) : Int))) ∧ Tk w0 W' T g (Rp.nx s 1) odd ∧ StayR W W' :=
  (u8_any _ g s.1 s.2 W h.2.1).mono fun _ _ hp => ⟨hp.1, h.reads (s' := Rp.nx s 1) hp.2.1 hp.2.2⟩
theorem tk_u16 {w0 W : World} {T g : Nat} {s : Rp.St} {odd : Bool} (h : Tk w0 W T g s odd) : Calls Tryz.prog 124 #[.pointer (some ⟨g, 0, none⟩)] W fun e W' => e = .returned (.int .u16 (((Rp.vl s 2 : Nat) : Int))) ∧ Tk w0 W' T g (Rp.nx s 2) odd ∧ StayR W W' :=
  (u16_any _ g s.1 s.2 W h.2.1).mono fun _ _ hp => ⟨hp.1, h.reads (s' := Rp.nx s 2) hp.2.1 hp.2.2⟩
theorem tk_u32 {w0 W : World} {T g : Nat} {s : Rp.St} {odd : Bool} (h : Tk w0 W T g s odd) : Calls Tryz.prog 56 #[.pointer (some ⟨g, 0, none⟩)] W fun e W' => e = .returned (.int .u32 (((Rp.vl s 4 : Nat) : Int))) ∧ Tk w0 W' T g (Rp.nx s 4) odd ∧ StayR W W' :=
  (u32_any _ g s.1 s.2 W h.2.1).mono fun _ _ hp => ⟨hp.1, h.reads (s' := Rp.nx s 4) hp.2.1 hp.2.2⟩
theorem tk_u64 {w0 W : World} {T g : Nat} {s : Rp.St} {odd : Bool} (h : Tk w0 W T g s odd) : Calls Tryz.prog 125 #[.pointer (some ⟨g, 0, none⟩)] W fun e W' => e = .returned (.int .u64 (((Rp.vl s 8 : Nat) : Int))) ∧ Tk w0 W' T g (Rp.nx s 8) odd ∧ StayR W W' :=
  (u64_any _ g s.1 s.2 W h.2.1).mono fun _ _ hp => ⟨hp.1, h.reads (s' := Rp.nx s 8) hp.2.1 hp.2.2⟩
theorem tk_text {w0 W : World} {T g : Nat} {s : Rp.St} {odd : Bool} (h : Tk w0 W T g s odd) : Calls Tryz.prog 132 #[.pointer (some ⟨g, 0, none⟩)] W fun e W' => e = .returned (.string (Rp.tt s)) ∧ Tk w0 W' T g (Rp.tx s) odd ∧ StayR W W' :=
  (text_any _ g s.1 s.2 W h.2.1).mono fun _ _ hp => ⟨hp.1, h.reads (s' := Rp.tx s) hp.2.1 hp.2.2⟩
theorem StayR.set {W w2 : World} {P i : Nat} (h : StayR W w2) (hP : W.heap.size ≤ P) (u : Value) : StayR W (w2.setCell ⟨P, i, none⟩ u) := ⟨fun k t cs ht hb => (h.1 k t cs ht hb).far (by have := hb.lt; omega) u, by simpa [World.setCell] using h.2⟩
set_option maxRecDepth 100000 in
set_option maxHeartbeats 2000000 in
theorem take_pane (w0 W : World) (T g : Nat) (s : Rp.St) (odd : Bool) (h : Tk w0 W T g s odd) :
    Calls Tryz.prog 127 #[.pointer (some ⟨T, 0, none⟩)] W fun e W' => e = .returned (.agg #[.string (Rp.tPane s).1.k, .int .i64 (Rp.tPane s).1.s, .int .i64 (Rp.tPane s).1.e]) ∧ Tk w0 W' T g (Rp.tPane s).2 odd ∧ StayR W W' := by
  have b0 : Below W.heap.size W (W.alloc (.cells #[.string ⟨#[]⟩, .int .i64 0, .int .i64 0] 45)) := (Below.refl _ _).alloc (Nat.le_refl _) _
  have K0 := Blk.new W 45 #[.string ⟨#[]⟩, .int .i64 0, .int .i64 0]
  have H0 := Lib.hid (And.intro (h.below b0) (And.intro (StayR.below b0) K0))
  have hgW := h.here
  have hTW := h.top
  obtain ⟨t0, -⟩ := H0.out.1.cell
  obtain ⟨vk, e1⟩ : ∃ v, Rp.tt s = v := ⟨_, rfl⟩
  obtain ⟨vs, e2⟩ : ∃ v, sg (Rp.vl (Rp.tx s) 8) = v := ⟨_, rfl⟩
  obtain ⟨ve, e3⟩ : ∃ v, sg (Rp.vl (Rp.nx (Rp.tx s) 8) 8) = v := ⟨_, rfl⟩
  have e0 : Rp.tPane s = (⟨vk, vs, ve⟩, Rp.nx (Rp.nx (Rp.tx s) 8) 8) := by
    unfold Rp.tPane
    rw [e1, e2, e3]
  rw [e0]
  have HE := Lib.hid (And.intro e1 (And.intro e2 e3))
  clear h b0 K0 e1 e2 e3 e0
  go_enter Tryz.func127, Tryz.ntmps127
  go_wp2_with fail
  clear t0
  refine (tk_text H0.out.1).mono ?_
  rintro e w1 ⟨rfl, k1, s1⟩
  rw [HE.out.1]
  have K1 := s1.1 _ _ _ (by decide) H0.out.2.2
  have b1 : Below w1.heap.size w1 (w1.alloc (.cells #[.string vk, .int .i64 0, .int .i64 0] 45)) := (Below.refl _ _).alloc (Nat.le_refl _) _
  have H1 := Lib.hid (And.intro (k1.below b1) (And.intro ((H0.out.2.1.trans s1).trans (StayR.below b1)) (And.intro (K1.below b1 K1.lt) (Blk.new w1 45 #[.string vk, .int .i64 0, .int .i64 0]))))
  have hz1 : W.heap.size < w1.heap.size := K1.lt
  obtain ⟨t0, -⟩ := H1.out.1.cell
  clear k1 s1 K1 b1
  go_wp2_with fail
  clear t0
  refine (tk_int H1.out.1).mono ?_
  rintro e w2 ⟨rfl, k2, s2⟩
  rw [HE.out.2.1]
  have K2 := s2.1 _ _ _ (by decide) H1.out.2.2.1
  have L2 := s2.1 _ _ _ (by decide) H1.out.2.2.2
  have l1 := L2.cell 1
  have f1 := L2.frozen 1
  have k3 := k2.set (P := w1.heap.size) (i := 1) (by omega) (by omega) (.int .i64 vs)
  have H2 := Lib.hid (And.intro k3 (And.intro ((H1.out.2.1.trans s2).set (P := w1.heap.size) (i := 1) (by omega) (.int .i64 vs)) (And.intro (K2.far (b := w1.heap.size) (o := 1) (by omega) (.int .i64 vs)) (And.intro (L2.set_ 1 (.int .i64 vs)) L2))))
  obtain ⟨t0, -⟩ := k3.cell
  clear k2 k3 s2 K2 L2
  go_wp2_with fail
  clear t0 l1 f1
  refine (tk_int H2.out.1).mono ?_
  rintro e w3 ⟨rfl, k3, s3⟩
  rw [HE.out.2.2]
  have K3 := s3.1 _ _ _ (by decide) H2.out.2.2.1
  have L3 := s3.1 _ _ _ (by decide) H2.out.2.2.2.1
  have LL := L3.set_ 2 (.int .i64 ve)
  have l0 : (w3.setCell ⟨w1.heap.size, 2, none⟩ (.int .i64 ve)).cell? ⟨w1.heap.size, 0, none⟩ = some (.string vk) := LL.cell 0
  have l1 : (w3.setCell ⟨w1.heap.size, 2, none⟩ (.int .i64 ve)).cell? ⟨w1.heap.size, 1, none⟩ = some (.int .i64 vs) := LL.cell 1
  have l2 : (w3.setCell ⟨w1.heap.size, 2, none⟩ (.int .i64 ve)).cell? ⟨w1.heap.size, 2, none⟩ = some (.int .i64 ve) := LL.cell 2
  have f2 := L3.frozen 2
  have l2' : w3.cell? ⟨w1.heap.size, 2, none⟩ = some (.int .i64 0) := L3.cell 2
  have k4 := k3.set (P := w1.heap.size) (i := 2) (by omega) (by omega) (.int .i64 ve)
  have K4 := K3.far (b := w1.heap.size) (o := 2) (by omega) (.int .i64 ve)
  have S4 := (H2.out.2.1.trans s3).set (P := w1.heap.size) (i := 2) (by omega) (.int .i64 ve)
  have p0 := K4.cell 0
  have p1 := K4.cell 1
  have p2 := K4.cell 2
  have q0 := K4.frozen 0
  have q1 := K4.frozen 1
  have q2 := K4.frozen 2
  have H4 := Lib.hid (And.intro (((k4.set (P := W.heap.size) (i := 0) hgW (by omega) (.string vk)).set (P := W.heap.size) (i := 1) hgW (by omega) (.int .i64 vs)).set (P := W.heap.size) (i := 2) hgW (by omega) (.int .i64 ve)) (((S4.set (P := W.heap.size) (i := 0) (Nat.le_refl _) (.string vk)).set (P := W.heap.size) (i := 1) (Nat.le_refl _) (.int .i64 vs)).set (P := W.heap.size) (i := 2) (Nat.le_refl _) (.int .i64 ve)))
  obtain ⟨X, hX⟩ : ∃ X, w3.setCell ⟨w1.heap.size, 2, none⟩ (.int .i64 ve) = X := ⟨_, rfl⟩
  rw [hX] at l0 l1 l2 p0 p1 p2 q0 q1 q2 H4
  clear k3 s3 K3 L3 LL k4 K4 S4
  go_wp2_with fail
  refine bodyPost_ret (v := .agg #[.string vk, .int .i64 vs, .int .i64 ve]) ?_ rfl ⟨rfl, H4.out⟩
  simp [results, Tryz.results127, go_sem, p0, p1, p2]
end Go.Proofs.YtognlgklepgemaaGreat

namespace Go.Proofs.YtognlgklepgemaaGreat
open Go.ChangeShapes Go.WideShapes Go.ChangeAt Go.RowKit

set_option maxRecDepth 100000 in
set_option maxHeartbeats 4000000 in
theorem take_row (w0 W : World) (T g : Nat) (s : Rp.St) (odd : Bool) (h : Tk w0 W T g s odd) :
    Calls Tryz.prog 129 #[.pointer (some ⟨T, 0, none⟩)] W fun e W' => e = .returned (rowV (Rp.tRow s).1) ∧ Tk w0 W' T g (Rp.tRow s).2 odd ∧ StayR W W' := by
  have b0 : Below W.heap.size W (W.alloc (.cells #[.string ⟨#[]⟩, .int .i64 0, .int .i64 0, .int .i64 0, .int .i64 0, .int .i64 0, .int .i64 0] 49)) := (Below.refl _ _).alloc (Nat.le_refl _) _
  have K0 := Blk.new W 49 #[.string ⟨#[]⟩, .int .i64 0, .int .i64 0, .int .i64 0, .int .i64 0, .int .i64 0, .int .i64 0]
  have H0 := Lib.hid (And.intro (h.below b0) (And.intro (StayR.below b0) K0))
  have hgW := h.here
  have hTW := h.top
  have CP := Lib.hid (take_pane w0 _ T g s odd (h.below b0))
  obtain ⟨pp, ep⟩ : ∃ p, Rp.tPane s = p := ⟨_, rfl⟩
  obtain ⟨⟨vk, vs, ve⟩, s1⟩ := pp
  obtain ⟨a0, e0⟩ : ∃ v, sg (Rp.vl s1 8) = v := ⟨_, rfl⟩
  obtain ⟨a1, e1⟩ : ∃ v, sg (Rp.vl (Rp.nx s1 8) 8) = v := ⟨_, rfl⟩
  obtain ⟨a2, e2⟩ : ∃ v, sg (Rp.vl (Rp.nx (Rp.nx s1 8) 8) 8) = v := ⟨_, rfl⟩
  obtain ⟨a3, e3⟩ : ∃ v, sg (Rp.vl (Rp.nx (Rp.nx (Rp.nx s1 8) 8) 8) 8) = v := ⟨_, rfl⟩
  have er : Rp.tRow s = (⟨⟨vk, vs, ve⟩, ⟨a0, a1, a2, a3⟩⟩, Rp.nx (Rp.nx (Rp.nx (Rp.nx s1 8) 8) 8) 8) := by
    unfold Rp.tRow Rp.tAgg
    rw [ep, e0, e1, e2, e3]
  rw [er]
  rw [ep] at CP
  unfold rowV
  dsimp only at CP ⊢
  have HE := Lib.hid (And.intro e0 (And.intro e1 (And.intro e2 e3)))
  clear h b0 K0 e0 e1 e2 e3 er ep
  go_enter Tryz.func129, Tryz.ntmps129
  go_wp2_with fail
  refine CP.out.mono ?_
  rintro e w1 ⟨rfl, k1, t1⟩
  have K1 := t1.1 _ _ _ (by decide) H0.out.2.2
  have b1 : Below w1.heap.size w1 (w1.alloc (.cells #[.string vk, .int .i64 vs, .int .i64 ve, .int .i64 0, .int .i64 0, .int .i64 0, .int .i64 0] 49)) := (Below.refl _ _).alloc (Nat.le_refl _) _
  have H1 := Lib.hid (And.intro (k1.below b1) (And.intro ((H0.out.2.1.trans t1).trans (StayR.below b1)) (And.intro (K1.below b1 K1.lt) (Blk.new w1 49 #[.string vk, .int .i64 vs, .int .i64 ve, .int .i64 0, .int .i64 0, .int .i64 0, .int .i64 0]))))
  have hz1 : W.heap.size < w1.heap.size := K1.lt
  obtain ⟨t0, -⟩ := H1.out.1.cell
  clear k1 t1 K1 b1
  go_wp2_with fail
  clear t0
  refine (tk_int H1.out.1).mono ?_
  rintro e w2 ⟨rfl, k, t⟩
  rw [HE.out.1]
  have K := t.1 _ _ _ (by decide) H1.out.2.2.1
  have L := t.1 _ _ _ (by decide) H1.out.2.2.2
  have l1 : w2.cell? ⟨w1.heap.size, 3, none⟩ = some (.int .i64 0) := L.cell 3
  have f1 := L.frozen 3
  have k3 := k.set (P := w1.heap.size) (i := 3) (by omega) (by omega) (.int .i64 a0)
  have KK := K.far (b := w1.heap.size) (o := 3) (by omega) (.int .i64 a0)
  have LL := L.set_ 3 (.int .i64 a0)
  have H2 := Lib.hid (And.intro k3 (And.intro ((H1.out.2.1.trans t).set (P := w1.heap.size) (i := 3) (by omega) (.int .i64 a0)) (And.intro KK (show Blk _ w1.heap.size 49 #[.string vk, .int .i64 vs, .int .i64 ve, .int .i64 a0, .int .i64 0, .int .i64 0, .int .i64 0] from LL))))
  obtain ⟨t0, -⟩ := k3.cell
  clear k k3 t K L KK LL
  go_wp2_with fail
  clear l1 f1
  clear t0
  refine (tk_int H2.out.1).mono ?_
  rintro e w3 ⟨rfl, k, t⟩
  rw [HE.out.2.1]
  have K := t.1 _ _ _ (by decide) H2.out.2.2.1
  have L := t.1 _ _ _ (by decide) H2.out.2.2.2
  have l1 : w3.cell? ⟨w1.heap.size, 4, none⟩ = some (.int .i64 0) := L.cell 4
  have f1 := L.frozen 4
  have k3 := k.set (P := w1.heap.size) (i := 4) (by omega) (by omega) (.int .i64 a1)
  have KK := K.far (b := w1.heap.size) (o := 4) (by omega) (.int .i64 a1)
  have LL := L.set_ 4 (.int .i64 a1)
  have H3 := Lib.hid (And.intro k3 (And.intro ((H2.out.2.1.trans t).set (P := w1.heap.size) (i := 4) (by omega) (.int .i64 a1)) (And.intro KK (show Blk _ w1.heap.size 49 #[.string vk, .int .i64 vs, .int .i64 ve, .int .i64 a0, .int .i64 a1, .int .i64 0, .int .i64 0] from LL))))
  obtain ⟨t0, -⟩ := k3.cell
  clear k k3 t K L KK LL
  go_wp2_with fail
  clear l1 f1
  clear t0
  refine (tk_int H3.out.1).mono ?_
  rintro e w4 ⟨rfl, k, t⟩
  rw [HE.out.2.2.1]
  have K := t.1 _ _ _ (by decide) H3.out.2.2.1
  have L := t.1 _ _ _ (by decide) H3.out.2.2.2
  have l1 : w4.cell? ⟨w1.heap.size, 5, none⟩ = some (.int .i64 0) := L.cell 5
  have f1 := L.frozen 5
  have k3 := k.set (P := w1.heap.size) (i := 5) (by omega) (by omega) (.int .i64 a2)
  have KK := K.far (b := w1.heap.size) (o := 5) (by omega) (.int .i64 a2)
  have LL := L.set_ 5 (.int .i64 a2)
  have H4 := Lib.hid (And.intro k3 (And.intro ((H3.out.2.1.trans t).set (P := w1.heap.size) (i := 5) (by omega) (.int .i64 a2)) (And.intro KK (show Blk _ w1.heap.size 49 #[.string vk, .int .i64 vs, .int .i64 ve, .int .i64 a0, .int .i64 a1, .int .i64 a2, .int .i64 0] from LL))))
  obtain ⟨t0, -⟩ := k3.cell
  clear k k3 t K L KK LL
  go_wp2_with fail
  clear l1 f1
  clear t0
  refine (tk_int H4.out.1).mono ?_
  rintro e w5 ⟨rfl, k, t⟩
  rw [HE.out.2.2.2]
  have K := t.1 _ _ _ (by decide) H4.out.2.2.1
  have L := t.1 _ _ _ (by decide) H4.out.2.2.2
  have l1 : w5.cell? ⟨w1.heap.size, 6, none⟩ = some (.int .i64 0) := L.cell 6
  have f1 := L.frozen 6
  have k3 := k.set (P := w1.heap.size) (i := 6) (by omega) (by omega) (.int .i64 a3)
  have KK := K.far (b := w1.heap.size) (o := 6) (by omega) (.int .i64 a3)
  have LL := L.set_ 6 (.int .i64 a3)
  have H5 := Lib.hid (And.intro k3 (And.intro ((H4.out.2.1.trans t).set (P := w1.heap.size) (i := 6) (by omega) (.int .i64 a3)) (And.intro KK (show Blk _ w1.heap.size 49 #[.string vk, .int .i64 vs, .int .i64 ve, .int .i64 a0, .int .i64 a1, .int .i64 a2, .int .i64 a3] from LL))))
  have y0 : (w5.setCell ⟨w1.heap.size, 6, none⟩ (.int .i64 a3)).cell? ⟨w1.heap.size, 0, none⟩ = some (.string vk) := LL.cell 0
  have y1 : (w5.setCell ⟨w1.heap.size, 6, none⟩ (.int .i64 a3)).cell? ⟨w1.heap.size, 1, none⟩ = some (.int .i64 vs) := LL.cell 1
  have y2 : (w5.setCell ⟨w1.heap.size, 6, none⟩ (.int .i64 a3)).cell? ⟨w1.heap.size, 2, none⟩ = some (.int .i64 ve) := LL.cell 2
  have y3 : (w5.setCell ⟨w1.heap.size, 6, none⟩ (.int .i64 a3)).cell? ⟨w1.heap.size, 3, none⟩ = some (.int .i64 a0) := LL.cell 3
  have y4 : (w5.setCell ⟨w1.heap.size, 6, none⟩ (.int .i64 a3)).cell? ⟨w1.heap.size, 4, none⟩ = some (.int .i64 a1) := LL.cell 4
  have y5 : (w5.setCell ⟨w1.heap.size, 6, none⟩ (.int .i64 a3)).cell? ⟨w1.heap.size, 5, none⟩ = some (.int .i64 a2) := LL.cell 5
  have y6 : (w5.setCell ⟨w1.heap.size, 6, none⟩ (.int .i64 a3)).cell? ⟨w1.heap.size, 6, none⟩ = some (.int .i64 a3) := LL.cell 6
  have p0 := KK.cell 0
  have q0 := KK.frozen 0
  have p1 := KK.cell 1
  have q1 := KK.frozen 1
  have p2 := KK.cell 2
  have q2 := KK.frozen 2
  have p3 := KK.cell 3
  have q3 := KK.frozen 3
  have p4 := KK.cell 4
  have q4 := KK.frozen 4
  have p5 := KK.cell 5
  have q5 := KK.frozen 5
  have p6 := KK.cell 6
  have q6 := KK.frozen 6
  have H6 := Lib.hid (And.intro (((((((H5.out.1.set (P := W.heap.size) (i := 0) hgW (by omega) (.string vk)).set (P := W.heap.size) (i := 1) hgW (by omega) (.int .i64 vs)).set (P := W.heap.size) (i := 2) hgW (by omega) (.int .i64 ve)).set (P := W.heap.size) (i := 3) hgW (by omega) (.int .i64 a0)).set (P := W.heap.size) (i := 4) hgW (by omega) (.int .i64 a1)).set (P := W.heap.size) (i := 5) hgW (by omega) (.int .i64 a2)).set (P := W.heap.size) (i := 6) hgW (by omega) (.int .i64 a3)) (((((((H5.out.2.1.set (P := W.heap.size) (i := 0) (Nat.le_refl _) (.string vk)).set (P := W.heap.size) (i := 1) (Nat.le_refl _) (.int .i64 vs)).set (P := W.heap.size) (i := 2) (Nat.le_refl _) (.int .i64 ve)).set (P := W.heap.size) (i := 3) (Nat.le_refl _) (.int .i64 a0)).set (P := W.heap.size) (i := 4) (Nat.le_refl _) (.int .i64 a1)).set (P := W.heap.size) (i := 5) (Nat.le_refl _) (.int .i64 a2)).set (P := W.heap.size) (i := 6) (Nat.le_refl _) (.int .i64 a3)))
  obtain ⟨X, hX⟩ : ∃ X, (w5.setCell ⟨w1.heap.size, 6, none⟩ (.int .i64 a3)) = X := ⟨_, rfl⟩
  rw [hX] at y0 p0 q0 y1 p1 q1 y2 p2 q2 y3 p3 q3 y4 p4 q4 y5 p5 q5 y6 p6 q6 H6
  clear k k3 t K L KK LL
  go_wp2_with fail
  refine bodyPost_ret (v := .agg #[.string vk, .int .i64 vs, .int .i64 ve, .int .i64 a0, .int .i64 a1, .int .i64 a2, .int .i64 a3]) ?_ rfl ⟨rfl, H6.out⟩
  simp [results, Tryz.results129, go_sem, p0, p1, p2, p3, p4, p5, p6]
/-- The reply's block. -/
def RepB (W : World) (R : Nat) (x : Rp.V) : Prop := Blk W R 28 x.cells
/-- A call that takes a part into the reply at R, turning the value at its cell i. -/
def TakeP (w0 W : World) (T g R i : Nat) (s' : Rp.St) (odd' : Bool) (cs : Array Value) (v : Value) (e : Ending) (W' : World) : Prop :=
  e = .returned (.tuple #[]) ∧ Tk w0 W' T g s' odd' ∧ Blk W' R 28 (cs.setIfInBounds i v) ∧ (∀ k t ds, t ≠ 136 → t ≠ 105 → k ≠ R → Blk W k t ds → Blk W' k t ds) ∧ W.heap.size ≤ W'.heap.size
set_option maxRecDepth 100000 in
theorem take_code (w0 W : World) (T g R i : Nat) (s : Rp.St) (odd : Bool) (cs : Array Value) (h : Tk w0 W T g s odd) (hb : Blk W R 28 cs) (hgR : g < R) (hRT : R ≠ T) (hi : i < cs.size) :
    Calls Tryz.prog 119 #[.pointer (some ⟨T, 0, none⟩), .pointer (some ⟨R, i, none⟩)] W (TakeP w0 W T g R i (Rp.nx s 2) odd cs (.int .u16 ((Rp.vl s 2 : Nat) : Int))) := by
  obtain ⟨t0, -⟩ := h.cell
  have H := Lib.hid (And.intro (tk_u16 h) hb)
  clear h hb
  go_enter Tryz.func119, Tryz.ntmps119
  go_wp2_with fail
  refine H.out.1.mono ?_
  rintro e w1 ⟨rfl, k1, t1⟩
  have K1 := t1.1 _ _ _ (by decide) H.out.2
  have c1 : w1.cell? ⟨R, i, none⟩ = some (cs[i]) := (K1.cell i).trans (Array.getElem?_eq_getElem hi)
  have f1 := K1.frozen i
  have HH := Lib.hid (And.intro (k1.set (P := R) (i := i) hgR hRT (.int .u16 ((Rp.vl s 2 : Nat) : Int))) (And.intro (K1.set_ i (.int .u16 ((Rp.vl s 2 : Nat) : Int))) t1))
  clear k1 t1 K1 t0
  go_wp2_with fail
  go_end0
  exact ⟨rfl, HH.out.1, HH.out.2.1, fun k t ds h1 _ h3 hk => (HH.out.2.2.1 k t ds h1 hk).far (fun e => h3 e.symm) _, by simpa [World.setCell] using HH.out.2.2.2⟩
set_option maxRecDepth 100000 in
theorem take_number (w0 W : World) (T g R i : Nat) (s : Rp.St) (odd : Bool) (cs : Array Value) (h : Tk w0 W T g s odd) (hb : Blk W R 28 cs) (hgR : g < R) (hRT : R ≠ T) (hi : i < cs.size) :
    Calls Tryz.prog 121 #[.pointer (some ⟨T, 0, none⟩), .pointer (some ⟨R, i, none⟩)] W (TakeP w0 W T g R i (Rp.nx s 8) odd cs (.int .u64 ((Rp.vl s 8 : Nat) : Int))) := by
  obtain ⟨t0, -⟩ := h.cell
  have H := Lib.hid (And.intro (tk_u64 h) hb)
  clear h hb
  go_enter Tryz.func121, Tryz.ntmps121
  go_wp2_with fail
  refine H.out.1.mono ?_
  rintro e w1 ⟨rfl, k1, t1⟩
  have K1 := t1.1 _ _ _ (by decide) H.out.2
  have c1 : w1.cell? ⟨R, i, none⟩ = some (cs[i]) := (K1.cell i).trans (Array.getElem?_eq_getElem hi)
  have f1 := K1.frozen i
  have HH := Lib.hid (And.intro (k1.set (P := R) (i := i) hgR hRT (.int .u64 ((Rp.vl s 8 : Nat) : Int))) (And.intro (K1.set_ i (.int .u64 ((Rp.vl s 8 : Nat) : Int))) t1))
  clear k1 t1 K1 t0
  go_wp2_with fail
  go_end0
  exact ⟨rfl, HH.out.1, HH.out.2.1, fun k t ds h1 _ h3 hk => (HH.out.2.2.1 k t ds h1 hk).far (fun e => h3 e.symm) _, by simpa [World.setCell] using HH.out.2.2.2⟩
end Go.Proofs.YtognlgklepgemaaGreat

namespace Go.Proofs.YtognlgklepgemaaGreat
open Go.ChangeShapes Go.WideShapes Go.ChangeAt Go.RowKit

theorem vl_lt1 {s : Rp.St} (h : ∀ x ∈ s.1, x < 256) : Rp.vl s 1 < 256 := Pk.taken_num_lt s.2 s.1 1 h
theorem Tk.lt {w0 W : World} {T g : Nat} {s : Rp.St} {odd : Bool} (h : Tk w0 W T g s odd) : ∀ x ∈ s.1, x < 256 := h.2.1.lt
theorem Tk.grow {w0 W W' : World} {T g : Nat} {s : Rp.St} {odd : Bool} {row : Option Nat} (h : Tk w0 W T g s odd) (hg : W.grownBy W' row) (hr : ∀ k, row = some k → g < k ∧ T < k) : Tk w0 W' T g s odd := by
  have hT : W'.heap[T]? = W.heap[T]? := hg.block T h.1.lt (fun e => by have := (hr T e.symm).2; omega)
  have hb : Below w0.heap.size W W' := ⟨hg.os, hg.tape, hg.output, hg.size, fun k hk => hg.block k (by have := h.2.2.1.size; omega) (fun e => by have := (hr k e.symm).1; have := h.2.2.2.1; omega)⟩
  refine ⟨hT.trans h.1, ?_, h.2.2.1.trans hb, h.2.2.2⟩
  rcases row with _ | k
  · have hg2 : W.grownBy W' (some W.heap.size) := ⟨hg.os, hg.tape, hg.output, hg.size, fun k hk _ => hg.block k hk (by simp)⟩
    exact h.2.1.kept hg2 (.inl h.here) h.2.2.2.1
  · exact h.2.1.kept hg (.inl (hr k rfl).1) h.2.2.2.1
theorem StayR.grow {W w2 w3 : World} {row : Option Nat} (h : StayR W w2) (hg : w2.grownBy w3 row) (hr : ∀ k, row = some k → W.heap.size ≤ k) : StayR W w3 :=
  ⟨fun k t cs ht hb => (hg.block k (by have := hb.lt; have := h.2; omega) (fun e => by have := hr k e.symm; have := hb.lt; omega)).trans (h.1 k t cs ht hb), Nat.le_trans h.2 hg.size⟩
set_option maxRecDepth 100000 in
set_option maxHeartbeats 1000000 in
theorem take_flag (w0 W : World) (T g R i : Nat) (s : Rp.St) (odd : Bool) (cs : Array Value) (h : Tk w0 W T g s odd) (hb : Blk W R 28 cs) (hgR : g < R) (hRT : R ≠ T) (hi : i < cs.size) (hgT : g < T) :
    Calls Tryz.prog 120 #[.pointer (some ⟨T, 0, none⟩), .pointer (some ⟨R, i, none⟩)] W (TakeP w0 W T g R i (Rp.nx s 1) (odd || decide (1 < Rp.vl s 1)) cs (.bool (decide (Rp.vl s 1 = 1)))) := by
  obtain ⟨t0, -⟩ := h.cell
  have H := Lib.hid (And.intro (tk_u8 h) hb)
  obtain ⟨n, hn⟩ : ∃ n, Rp.vl s 1 = n := ⟨_, rfl⟩
  have e1 : ((n : Int) == 1) = decide (n = 1) := by rw [Bool.eq_iff_iff, beq_iff_eq, decide_eq_true_iff]; omega
  have e2 : decide ((1 : Int) < n) = decide (1 < n) := by rw [decide_eq_decide]; omega
  rw [hn] at H ⊢
  generalize decide (n = 1) = b1 at *
  clear h hb
  go_enter Tryz.func120, Tryz.ntmps120
  go_wp2_with fail
  clear t0
  refine H.out.1.mono ?_
  rintro e w1 ⟨rfl, k1, t1⟩
  have K1 := t1.1 _ _ _ (by decide) H.out.2
  have c1 : w1.cell? ⟨R, i, none⟩ = some (cs[i]) := (K1.cell i).trans (Array.getElem?_eq_getElem hi)
  have f1 := K1.frozen i
  have k2 := k1.set (P := R) (i := i) hgR hRT (.bool b1)
  have K2 := K1.set_ i (.bool b1)
  obtain ⟨t0, o1, of⟩ := k2.cell
  have k3 : ∀ b : Bool, Tk w0 ((w1.setCell ⟨R, i, none⟩ (.bool b1)).setCell ⟨T, 1, none⟩ (.bool b)) T g (Rp.nx s 1) b := fun b => by
    have hT : Blk ((w1.setCell ⟨R, i, none⟩ (.bool b1)).setCell ⟨T, 1, none⟩ (.bool b)) T 105 #[.pointer (some ⟨g, 0, none⟩), .bool b] := k2.1.set_ 1 (.bool b)
    exact ⟨hT, k2.2.1.kept (grown_set 1 (.bool b)) (.inl hgT) k2.2.2.2.1, k2.2.2.1.setCell (p := ⟨T, 1, none⟩) k2.2.2.2.2 _, k2.2.2.2⟩
  have HH := Lib.hid (And.intro k3 (And.intro (fun b : Bool => K2.far (b := T) (o := 1) (fun e => hRT e.symm) (.bool b)) t1))
  have hfr : ∀ b : Bool, (∀ k t ds, t ≠ 136 → t ≠ 105 → k ≠ R → Blk W k t ds → Blk ((w1.setCell ⟨R, i, none⟩ (.bool b1)).setCell ⟨T, 1, none⟩ (.bool b)) k t ds) ∧ W.heap.size ≤ ((w1.setCell ⟨R, i, none⟩ (.bool b1)).setCell ⟨T, 1, none⟩ (.bool b)).heap.size := fun b =>
    ⟨fun k t ds h1 h2 h3 hk => ((t1.1 k t ds h1 hk).far (fun e => h3 e.symm) _).far (fun e => blk_ne ((t1.1 k t ds h1 hk).far (fun e => h3 e.symm) (.bool b1)) k2.1 h2 e.symm) _, by simpa [World.setCell] using t1.2⟩
  have HF := Lib.hid hfr
  clear k1 t1 K1 k2 K2 k3 hfr
  cases odd
  · by_cases hg1 : 1 < n
    · have HG := Lib.hid (show (false || decide (1 < n)) = true from by rw [decide_eq_true hg1]; rfl)
      rw [decide_eq_true hg1] at e2
      clear hg1
      go_wp2_with fail
      go_end0
      exact ⟨rfl, by rw [HG.out]; exact HH.out.1 true, HH.out.2.1 true, HF.out true⟩
    · have HG := Lib.hid (show (false || decide (1 < n)) = false from by rw [decide_eq_false hg1]; rfl)
      rw [decide_eq_false hg1] at e2
      have hg2 : ¬ (1 : Int) < n := by omega
      clear hg1
      go_wp2_with fail
      go_end0
      exact ⟨rfl, by rw [HG.out]; exact HH.out.1 false, HH.out.2.1 false, HF.out false⟩
  · rw [Bool.true_or]
    go_wp2_with fail
    go_end0
    exact ⟨rfl, HH.out.1 true, HH.out.2.1 true, HF.out true⟩
theorem Tryz.info49 : (Tryz.prog.info? 49).map (fun i => (i.zero, i.size, i.bytes)) = some (some (.agg #[.string ⟨#[]⟩, .int .i64 0, .int .i64 0, .int .i64 0, .int .i64 0, .int .i64 0, .int .i64 0]), 7, 64) := by kernel_rfl
set_option maxRecDepth 100000 in
set_option maxHeartbeats 2000000 in
theorem takeList_row (w0 W : World) (T g : Nat) (s : Rp.St) (odd : Bool) (h : Tk w0 W T g s odd) :
    Calls Tryz.prog 128 #[.pointer (some ⟨T, 0, none⟩), .func (.func 129) #[.pointer (some ⟨T, 0, none⟩)] #[]] W fun e W' => ∃ A c, e = .returned (.slice A (Rp.vl s 1) c) ∧ W'.ownsRow W.heap.size 49 7 (.slice A (Rp.vl s 1) c) (Rp.vl s 1) (rcells (Rp.tList Rp.tRow (Rp.vl s 1) (Rp.nx s 1)).1) ∧ Tk w0 W' T g (Rp.tList Rp.tRow (Rp.vl s 1) (Rp.nx s 1)).2 odd ∧ StayR W W' := by
  obtain ⟨i0, hi, hz0, hz1, hz2⟩ := info_parts Tryz.info49
  have HI := Lib.hid (And.intro hi (And.intro hz0 (And.intro hz1 hz2)))
  clear hi hz0 hz1 hz2
  obtain ⟨t0, -⟩ := h.cell
  have hgW := h.here
  have hTW := h.top
  have hn := vl_lt1 h.lt
  have H := Lib.hid (tk_u8 h)
  obtain ⟨n, hN⟩ : ∃ n, Rp.vl s 1 = n := ⟨_, rfl⟩
  obtain ⟨s1, hs1⟩ : ∃ s1, Rp.nx s 1 = s1 := ⟨_, rfl⟩
  rw [hN, hs1] at H ⊢
  rw [hN] at hn
  clear h hN hs1
  go_enter Tryz.func128, Tryz.ntmps128
  go_wp2_with fail
  clear t0
  refine H.out.mono ?_
  rintro e w1 ⟨rfl, k1, t1⟩
  have H1 := Lib.hid (And.intro k1 t1)
  clear k1 t1
  go_wp2_with fail
  go_loopw [5, 11] (fun r i wr => ∃ j : Nat, j ≤ n ∧ i = .int .u8 (j : Int) ∧ wr.ownsRow W.heap.size 49 7 r j (rcells (Rp.tList Rp.tRow j s1).1) ∧ Tk w0 wr T g (Rp.tList Rp.tRow j s1).2 odd ∧ StayR W wr) (fun _ i _ => n - (intOf i).toNat)
  case atStart => exact ⟨0, by omega, rfl, own_nil _ _ _ _, H1.out.1, H1.out.2⟩
  case round =>
    obtain ⟨j, hj, rfl, hown, htk, hst⟩ := hrel
    obtain ⟨A3, c3, rfl⟩ := own_slice hown
    by_cases hlt : j < n
    · have CR := Lib.hid (take_row w0 _ T g (Rp.tList Rp.tRow j s1).2 odd htk)
      have hsn := Rp.tList_snoc Rp.tRow j s1
      obtain ⟨L, hL⟩ : ∃ L, (Rp.tList Rp.tRow j s1).1 = L := ⟨_, rfl⟩
      obtain ⟨x, hx⟩ : ∃ x, (Rp.tRow (Rp.tList Rp.tRow j s1).2).1 = x := ⟨_, rfl⟩
      obtain ⟨s2, hs2⟩ : ∃ s2, (Rp.tRow (Rp.tList Rp.tRow j s1).2).2 = s2 := ⟨_, rfl⟩
      rw [hx, hs2] at CR hsn
      rw [hL] at hown hsn
      have HO := Lib.hid (And.intro hown (And.intro hst hsn))
      have i1 : (j : Int) < n := by omega
      have iw : IntKind.u8.wrap ((j : Int) + 1) = ((j + 1 : Nat) : Int) := by
        simp [IntKind.wrap, IntKind.bits, IntKind.signed]
        omega
      clear hown htk hst hsn hL hx hs2
      unfold rowV at CR
      go_wp2_with fail
      refine CR.out.mono ?_
      rintro e w2 ⟨rfl, k2, t2⟩
      have b2 : Below w2.heap.size w2 (w2.alloc (.cells #[.string x.p.k, .int .i64 x.p.s, .int .i64 x.p.e, .int .i64 x.a.c, .int .i64 x.a.s, .int .i64 x.a.lo, .int .i64 x.a.hi] 49)) := (Below.refl _ _).alloc (Nat.le_refl _) _
      have H2 := Lib.hid (And.intro (own_below (own_stay HO.out.1 t2 (by decide)) b2) (And.intro (k2.below b2) ((HO.out.2.1.trans t2).trans (StayR.below b2))))
      have hz2 : W.heap.size ≤ w2.heap.size := (HO.out.2.1.trans t2).2
      clear k2 t2 b2
      try unfold rowV
      go_wp2_with (at_builtin; refine wpList_append_own _ rfl _ _ 25 rfl W.heap.size 49 i0 (.agg #[.string ⟨#[]⟩, .int .i64 0, .int .i64 0, .int .i64 0, .int .i64 0, .int .i64 0, .int .i64 0]) 7 64 Tryz.underlying25 HI.out.1 HI.out.2.1 HI.out.2.2.1 HI.out.2.2.2 rfl (by decide) _ j _ rfl H2.out.1 ⟨w2.heap.size, 0, none⟩ 1 1 [.string x.p.k, .int .i64 x.p.s, .int .i64 x.p.e, .int .i64 x.a.c, .int .i64 x.a.s, .int .i64 x.a.lo, .int .i64 x.a.hi] rfl rfl (cells7 w2 _ _ _ _ _ _ _ _) (by simp [Value.oneCell']) (by unfold maxLen; omega) (by omega) (by simp; omega) ?_; intro v' w3 hown hgrow _)
      have k3 := H2.out.2.1.grow hgrow (fun k hk => by have := (H2.out.1.lt k hk).1; omega)
      have t3 := H2.out.2.2.grow hgrow (fun k hk => (H2.out.1.lt k hk).1)
      refine ⟨⟨j + 1, by omega, by go_num, ?_, ?_, t3⟩, by simp [intOf]; omega⟩
      · rw [HO.out.2.2]
        show w3.ownsRow W.heap.size _ _ _ (j + 1) (rcells (L ++ [x]))
        rw [rcells_snoc]
        exact hown
      · rw [HO.out.2.2]
        exact k3
    · obtain rfl : j = n := by omega
      have HF := Lib.hid (And.intro hown (And.intro htk hst))
      clear hown htk hst
      go_wp2_with fail
      go_ret
      exact ⟨A3, c3, rfl, HF.out⟩
set_option maxRecDepth 100000 in
set_option maxHeartbeats 1000000 in
theorem take_rows (w0 W : World) (T g R i : Nat) (s : Rp.St) (odd : Bool) (cs : Array Value) (h : Tk w0 W T g s odd) (hb : Blk W R 28 cs) (hgR : g < R) (hRT : R ≠ T) (hi : i < cs.size) :
    Calls Tryz.prog 123 #[.pointer (some ⟨T, 0, none⟩), .pointer (some ⟨R, i, none⟩)] W fun e W' => ∃ A c, TakeP w0 W T g R i (Rp.tList Rp.tRow (Rp.vl s 1) (Rp.nx s 1)).2 odd cs (.slice A (Rp.vl s 1) c) e W' ∧ W'.ownsRow W.heap.size 49 7 (.slice A (Rp.vl s 1) c) (Rp.vl s 1) (rcells (Rp.tList Rp.tRow (Rp.vl s 1) (Rp.nx s 1)).1) := by
  have H := Lib.hid (And.intro (takeList_row w0 W T g s odd h) hb)
  have hmf : ∀ (fn : Fn) (first cap : Array Value) (w : World), (Instr.makeFunc fn first cap).run Tryz.prog w = .ok (.func fn first cap) w := fun _ _ _ _ => rfl
  generalize Rp.vl s 1 = n at *
  clear h hb
  go_enter Tryz.func123, Tryz.ntmps123
  go_wp2_with fail
  refine H.out.1.mono ?_
  rintro e w1 ⟨A1, c1, rfl, o1, k1, t1⟩
  have K1 := t1.1 _ _ _ (by decide) H.out.2
  have d1 : w1.cell? ⟨R, i, none⟩ = some (cs[i]) := (K1.cell i).trans (Array.getElem?_eq_getElem hi)
  have f1 := K1.frozen i
  have HH := Lib.hid (And.intro (k1.set (P := R) (i := i) hgR hRT (.slice A1 n c1)) (And.intro (K1.set_ i (.slice A1 n c1)) (And.intro t1 (own_off o1 (grown_set i (.slice A1 n c1)) K1 (by decide)))))
  clear k1 t1 K1 o1
  go_wp2_with fail
  go_end0
  exact ⟨A1, c1, ⟨rfl, HH.out.1, HH.out.2.1, fun k t ds h1 _ h3 hk => (HH.out.2.2.1.1 k t ds h1 hk).far (fun e => h3 e.symm) _, by simpa [World.setCell] using HH.out.2.2.1.2⟩, HH.out.2.2.2⟩
theorem Tryz.info45 : (Tryz.prog.info? 45).map (fun i => (i.zero, i.size, i.bytes)) = some (some (.agg #[.string ⟨#[]⟩, .int .i64 0, .int .i64 0]), 3, 32) := by kernel_rfl
set_option maxRecDepth 100000 in
set_option maxHeartbeats 2000000 in
theorem takeList_pane (w0 W : World) (T g : Nat) (s : Rp.St) (odd : Bool) (h : Tk w0 W T g s odd) :
    Calls Tryz.prog 126 #[.pointer (some ⟨T, 0, none⟩), .func (.func 127) #[.pointer (some ⟨T, 0, none⟩)] #[]] W fun e W' => ∃ A c, e = .returned (.slice A (Rp.vl s 1) c) ∧ W'.ownsRow W.heap.size 45 3 (.slice A (Rp.vl s 1) c) (Rp.vl s 1) (pncells (Rp.tList Rp.tPane (Rp.vl s 1) (Rp.nx s 1)).1) ∧ Tk w0 W' T g (Rp.tList Rp.tPane (Rp.vl s 1) (Rp.nx s 1)).2 odd ∧ StayR W W' := by
  obtain ⟨i0, hi, hz0, hz1, hz2⟩ := info_parts Tryz.info45
  have HI := Lib.hid (And.intro hi (And.intro hz0 (And.intro hz1 hz2)))
  clear hi hz0 hz1 hz2
  obtain ⟨t0, -⟩ := h.cell
  have hgW := h.here
  have hTW := h.top
  have hn := vl_lt1 h.lt
  have H := Lib.hid (tk_u8 h)
  obtain ⟨n, hN⟩ : ∃ n, Rp.vl s 1 = n := ⟨_, rfl⟩
  obtain ⟨s1, hs1⟩ : ∃ s1, Rp.nx s 1 = s1 := ⟨_, rfl⟩
  rw [hN, hs1] at H ⊢
  rw [hN] at hn
  clear h hN hs1
  go_enter Tryz.func126, Tryz.ntmps126
  go_wp2_with fail
  clear t0
  refine H.out.mono ?_
  rintro e w1 ⟨rfl, k1, t1⟩
  have H1 := Lib.hid (And.intro k1 t1)
  clear k1 t1
  go_wp2_with fail
  go_loopw [5, 11] (fun r i wr => ∃ j : Nat, j ≤ n ∧ i = .int .u8 (j : Int) ∧ wr.ownsRow W.heap.size 45 3 r j (pncells (Rp.tList Rp.tPane j s1).1) ∧ Tk w0 wr T g (Rp.tList Rp.tPane j s1).2 odd ∧ StayR W wr) (fun _ i _ => n - (intOf i).toNat)
  case atStart => exact ⟨0, by omega, rfl, own_nil _ _ _ _, H1.out.1, H1.out.2⟩
  case round =>
    obtain ⟨j, hj, rfl, hown, htk, hst⟩ := hrel
    obtain ⟨A3, c3, rfl⟩ := own_slice hown
    by_cases hlt : j < n
    · have CR := Lib.hid (take_pane w0 _ T g (Rp.tList Rp.tPane j s1).2 odd htk)
      have hsn := Rp.tList_snoc Rp.tPane j s1
      obtain ⟨L, hL⟩ : ∃ L, (Rp.tList Rp.tPane j s1).1 = L := ⟨_, rfl⟩
      obtain ⟨x, hx⟩ : ∃ x, (Rp.tPane (Rp.tList Rp.tPane j s1).2).1 = x := ⟨_, rfl⟩
      obtain ⟨s2, hs2⟩ : ∃ s2, (Rp.tPane (Rp.tList Rp.tPane j s1).2).2 = s2 := ⟨_, rfl⟩
      rw [hx, hs2] at CR hsn
      rw [hL] at hown hsn
      have HO := Lib.hid (And.intro hown (And.intro hst hsn))
      have i1 : (j : Int) < n := by omega
      have iw : IntKind.u8.wrap ((j : Int) + 1) = ((j + 1 : Nat) : Int) := by
        simp [IntKind.wrap, IntKind.bits, IntKind.signed]
        omega
      clear hown htk hst hsn hL hx hs2
      go_wp2_with fail
      refine CR.out.mono ?_
      rintro e w2 ⟨rfl, k2, t2⟩
      have b2 : Below w2.heap.size w2 (w2.alloc (.cells #[.string x.k, .int .i64 x.s, .int .i64 x.e] 45)) := (Below.refl _ _).alloc (Nat.le_refl _) _
      have H2 := Lib.hid (And.intro (own_below (own_stay HO.out.1 t2 (by decide)) b2) (And.intro (k2.below b2) ((HO.out.2.1.trans t2).trans (StayR.below b2))))
      have hz2 : W.heap.size ≤ w2.heap.size := (HO.out.2.1.trans t2).2
      clear k2 t2 b2
      try unfold rowV
      go_wp2_with (at_builtin; refine wpList_append_own _ rfl _ _ 26 rfl W.heap.size 45 i0 (.agg #[.string ⟨#[]⟩, .int .i64 0, .int .i64 0]) 3 32 Tryz.underlying26 HI.out.1 HI.out.2.1 HI.out.2.2.1 HI.out.2.2.2 rfl (by decide) _ j _ rfl H2.out.1 ⟨w2.heap.size, 0, none⟩ 1 1 [.string x.k, .int .i64 x.s, .int .i64 x.e] rfl rfl (cells3' w2 _ _ _ _) (by simp [Value.oneCell']) (by unfold maxLen; omega) (by omega) (by simp; omega) ?_; intro v' w3 hown hgrow _)
      have k3 := H2.out.2.1.grow hgrow (fun k hk => by have := (H2.out.1.lt k hk).1; omega)
      have t3 := H2.out.2.2.grow hgrow (fun k hk => (H2.out.1.lt k hk).1)
      refine ⟨⟨j + 1, by omega, by go_num, ?_, ?_, t3⟩, by simp [intOf]; omega⟩
      · rw [HO.out.2.2]
        show w3.ownsRow W.heap.size _ _ _ (j + 1) (pncells (L ++ [x]))
        rw [pncells_snoc]
        exact hown
      · rw [HO.out.2.2]
        exact k3
    · obtain rfl : j = n := by omega
      have HF := Lib.hid (And.intro hown (And.intro htk hst))
      clear hown htk hst
      go_wp2_with fail
      go_ret
      exact ⟨A3, c3, rfl, HF.out⟩
set_option maxRecDepth 100000 in
set_option maxHeartbeats 1000000 in
theorem take_panes (w0 W : World) (T g R i : Nat) (s : Rp.St) (odd : Bool) (cs : Array Value) (h : Tk w0 W T g s odd) (hb : Blk W R 28 cs) (hgR : g < R) (hRT : R ≠ T) (hi : i < cs.size) :
    Calls Tryz.prog 122 #[.pointer (some ⟨T, 0, none⟩), .pointer (some ⟨R, i, none⟩)] W fun e W' => ∃ A c, TakeP w0 W T g R i (Rp.tList Rp.tPane (Rp.vl s 1) (Rp.nx s 1)).2 odd cs (.slice A (Rp.vl s 1) c) e W' ∧ W'.ownsRow W.heap.size 45 3 (.slice A (Rp.vl s 1) c) (Rp.vl s 1) (pncells (Rp.tList Rp.tPane (Rp.vl s 1) (Rp.nx s 1)).1) := by
  have H := Lib.hid (And.intro (takeList_pane w0 W T g s odd h) hb)
  have hmf : ∀ (fn : Fn) (first cap : Array Value) (w : World), (Instr.makeFunc fn first cap).run Tryz.prog w = .ok (.func fn first cap) w := fun _ _ _ _ => rfl
  generalize Rp.vl s 1 = n at *
  clear h hb
  go_enter Tryz.func122, Tryz.ntmps122
  go_wp2_with fail
  refine H.out.1.mono ?_
  rintro e w1 ⟨A1, c1, rfl, o1, k1, t1⟩
  have K1 := t1.1 _ _ _ (by decide) H.out.2
  have d1 : w1.cell? ⟨R, i, none⟩ = some (cs[i]) := (K1.cell i).trans (Array.getElem?_eq_getElem hi)
  have f1 := K1.frozen i
  have HH := Lib.hid (And.intro (k1.set (P := R) (i := i) hgR hRT (.slice A1 n c1)) (And.intro (K1.set_ i (.slice A1 n c1)) (And.intro t1 (own_off o1 (grown_set i (.slice A1 n c1)) K1 (by decide)))))
  clear k1 t1 K1 o1
  go_wp2_with fail
  go_end0
  exact ⟨A1, c1, ⟨rfl, HH.out.1, HH.out.2.1, fun k t ds h1 _ h3 hk => (HH.out.2.2.1.1 k t ds h1 hk).far (fun e => h3 e.symm) _, by simpa [World.setCell] using HH.out.2.2.1.2⟩, HH.out.2.2.2⟩
end Go.Proofs.YtognlgklepgemaaGreat

namespace Go.Proofs.YtognlgklepgemaaGreat
open Go.ChangeShapes Go.WideShapes Go.ChangeAt Go.RowKit

namespace Rp
/-- What has been taken of a reply so far. -/
structure Sg where
  x : V
  rows : List Rw
  gone : List Pn
  s : St
  odd : Bool
def V.num (x : V) (p n : Nat) : V := if p = 2 then { x with ep := n } else if p = 3 then { x with fl := n } else if p = 4 then { x with un := n } else if p = 5 then { x with le := n } else if p = 6 then { x with st := n } else { x with ti := n }
def Sg.step (σ : Sg) (p : Nat) : Sg :=
  if p = 0 then { σ with x := { σ.x with code := vl σ.s 2 }, s := nx σ.s 2 }
  else if p = 1 then { σ with x := { σ.x with last := decide (vl σ.s 1 = 1) }, s := nx σ.s 1, odd := σ.odd || decide (1 < vl σ.s 1) }
  else if p = 8 then { σ with x := { σ.x with n := vl σ.s 1 }, rows := (tList tRow (vl σ.s 1) (nx σ.s 1)).1, s := (tList tRow (vl σ.s 1) (nx σ.s 1)).2 }
  else if p = 9 then { σ with x := { σ.x with m := vl σ.s 1 }, gone := (tList tPane (vl σ.s 1) (nx σ.s 1)).1, s := (tList tPane (vl σ.s 1) (nx σ.s 1)).2 }
  else { σ with x := σ.x.num p (vl σ.s 8), s := nx σ.s 8 }
theorem Sg.step_num (σ : Sg) (p : Nat) (h1 : 2 ≤ p) (h2 : p ≤ 7) : σ.step p = { σ with x := σ.x.num p (vl σ.s 8), s := nx σ.s 8 } := by
  unfold Sg.step
  rw [if_neg (by omega), if_neg (by omega), if_neg (by omega), if_neg (by omega)]
theorem V.num_cells (x : V) (p n : Nat) (h1 : 2 ≤ p) (h2 : p ≤ 7) (A : Option Addr) (c : Nat) (G : Option Addr) (d : Nat) : ((x.num p n).at_ A c G d).cells = (x.at_ A c G d).cells.setIfInBounds (p + 2) (.int .u64 (n : Int)) := by
  have : p = 2 ∨ p = 3 ∨ p = 4 ∨ p = 5 ∨ p = 6 ∨ p = 7 := by omega
  rcases this with rfl | rfl | rfl | rfl | rfl | rfl <;> rfl
theorem V.num_nm (x : V) (p n : Nat) : (x.num p n).n = x.n ∧ (x.num p n).m = x.m ∧ (x.num p n).k = x.k ∧ (x.num p n).id = x.id := by
  unfold V.num
  repeat' split
  all_goals exact ⟨rfl, rfl, rfl, rfl⟩
/-- The bytes that are left are bytes. -/
def St.ok (s : St) : Prop := ∀ y ∈ s.1, y < 256
theorem nx_ok {s : St} (h : St.ok s) (k : Nat) : St.ok (nx s k) := Pk.left_lt s.2 s.1 k h
theorem tx_ok {s : St} (h : St.ok s) : St.ok (tx s) := by
  intro y hy
  unfold tx at hy
  dsimp only at hy
  unfold Pk.tleft at hy
  split at hy
  · exact h y hy
  · exact h y (List.mem_of_mem_drop hy)
theorem tPane_ok {s : St} (h : St.ok s) : St.ok (tPane s).2 := nx_ok (nx_ok (tx_ok h) 8) 8
theorem tRow_ok {s : St} (h : St.ok s) : St.ok (tRow s).2 := nx_ok (nx_ok (nx_ok (nx_ok (tPane_ok h) 8) 8) 8) 8
theorem tList_ok {α : Type} {f : St → α × St} (hf : ∀ s, St.ok s → St.ok (f s).2) (n : Nat) {s : St} (h : St.ok s) : St.ok (tList f n s).2 := by
  induction n generalizing s with
  | zero => exact h
  | succ n ih => exact ih (hf s h)
theorem vl_lt {s : St} (h : St.ok s) (k : Nat) : vl s k < 256 ^ k := Pk.taken_num_lt s.2 s.1 k h
/-- What is taken fits. -/
def Sg.ok (σ : Sg) : Prop := σ.x.ok ∧ St.ok σ.s ∧ σ.x.n < 256 ∧ σ.x.m < 256
theorem V.num_ok {x : V} (h : x.ok) (p n : Nat) (hn : n < 18446744073709551616) : (x.num p n).ok := by
  obtain ⟨o0, o1, o2, o3, o4, o5, o6, o7, o8⟩ := h
  unfold V.num
  repeat' split
  · exact ⟨o0, o1, o2, hn, o4, o5, o6, o7, o8⟩
  · exact ⟨o0, o1, o2, o3, hn, o5, o6, o7, o8⟩
  · exact ⟨o0, o1, o2, o3, o4, hn, o6, o7, o8⟩
  · exact ⟨o0, o1, o2, o3, o4, o5, hn, o7, o8⟩
  · exact ⟨o0, o1, o2, o3, o4, o5, o6, hn, o8⟩
  · exact ⟨o0, o1, o2, o3, o4, o5, o6, o7, hn⟩
theorem Sg.step_ok {σ : Sg} (h : σ.ok) (p : Nat) : (σ.step p).ok := by
  obtain ⟨⟨o0, o1, o2, o3, o4, o5, o6, o7, o8⟩, hs, hn, hm⟩ := h
  have v1 := vl_lt hs 1
  have v2 := vl_lt hs 2
  have v8 := vl_lt hs 8
  unfold Sg.step
  split
  · exact ⟨⟨o0, o1, v2, o3, o4, o5, o6, o7, o8⟩, nx_ok hs 2, hn, hm⟩
  · split
    · exact ⟨⟨o0, o1, o2, o3, o4, o5, o6, o7, o8⟩, nx_ok hs 1, hn, hm⟩
    · split
      · exact ⟨⟨o0, o1, o2, o3, o4, o5, o6, o7, o8⟩, tList_ok (fun s => tRow_ok) _ (nx_ok hs 1), v1, hm⟩
      · split
        · exact ⟨⟨o0, o1, o2, o3, o4, o5, o6, o7, o8⟩, tList_ok (fun s => tPane_ok) _ (nx_ok hs 1), hn, v1⟩
        · refine ⟨V.num_ok ⟨o0, o1, o2, o3, o4, o5, o6, o7, o8⟩ p _ v8, nx_ok hs 8, ?_, ?_⟩
          · show (σ.x.num p _).n < 256
            rw [(σ.x.num_nm p _).1]; exact hn
          · show (σ.x.num p _).m < 256
            rw [(σ.x.num_nm p _).2.1]; exact hm
theorem Sg.steps_ok (l : List Nat) {σ : Sg} (h : σ.ok) : (l.foldl Sg.step σ).ok := by
  induction l generalizing σ with
  | nil => exact h
  | cons p l ih => exact ih (Sg.step_ok h p)
end Rp
def takF (p : Nat) : FuncId := if p = 0 then 119 else if p = 1 then 120 else if p = 8 then 123 else if p = 9 then 122 else 121
theorem takF_num (p : Nat) (h1 : 2 ≤ p) (h2 : p ≤ 7) : takF p = 121 := by
  unfold takF
  rw [if_neg (by omega), if_neg (by omega), if_neg (by omega), if_neg (by omega)]
theorem tak_visitor (P : Nat) : Visitor 108 (.pointer (some ⟨P, 0, none⟩)) (.pointer (some ⟨P, 0, none⟩)) takF where
  code := ⟨fun _ => by kernel_rfl, fun _ _ => by kernel_rfl, fun _ => by kernel_rfl⟩
  flag := ⟨fun _ => by kernel_rfl, fun _ _ => by kernel_rfl, fun _ => by kernel_rfl⟩
  rows := ⟨fun _ => by kernel_rfl, fun _ _ => by kernel_rfl, fun _ => by kernel_rfl⟩
  panes := ⟨fun _ => by kernel_rfl, fun _ _ => by kernel_rfl, fun _ => by kernel_rfl⟩
  number p h1 h2 := by
    rw [takF_num p h1 h2]
    exact ⟨fun _ => by kernel_rfl, fun _ _ => by kernel_rfl, fun _ => by kernel_rfl⟩
/-- The taker, the reader and the reply at R. -/
def TkR (w0 W : World) (T g R : Nat) (σ : Rp.Sg) : Prop :=
  Tk w0 W T g σ.s σ.odd ∧ g < T ∧ g < R ∧ R ≠ T ∧ ∃ A c G d, Blk W R 28 (σ.x.at_ A c G d).cells ∧ W.ownsRow w0.heap.size 49 7 (.slice A σ.x.n c) σ.x.n (rcells σ.rows) ∧ W.ownsRow w0.heap.size 45 3 (.slice G σ.x.m d) σ.x.m (pncells σ.gone)
theorem TkR.below {w0 W W' : World} {T g R : Nat} {σ : Rp.Sg} (h : TkR w0 W T g R σ) (b : Below W.heap.size W W') : TkR w0 W' T g R σ := by
  obtain ⟨h1, h2, h3, h4, A, c, G, d, h5, h6, h7⟩ := h
  exact ⟨h1.below b, h2, h3, h4, A, c, G, d, h5.below b h5.lt, own_below h6 b, own_below h7 b⟩
theorem own_frame {w w' : World} {R base e s n : Nat} {v : Value} {xs : List Value} {cs : Array Value} (h : w.ownsRow base e s v n xs) (hR : Blk w R 28 cs) (hf : ∀ k t ds, t ≠ 136 → t ≠ 105 → k ≠ R → Blk w k t ds → Blk w' k t ds) (he : e ≠ 136 ∧ e ≠ 105 ∧ e ≠ 28) : w'.ownsRow base e s v n xs := by
  refine ⟨h.1, ?_⟩
  rcases h.2 with hn | ⟨g, cap, cur, hv, hb, hg, rest⟩
  · exact .inl hn
  · exact .inr ⟨g, cap, cur, hv, hb, hf g e cur he.1 he.2.1 (blk_ne hg hR he.2.2) hg, rest⟩
theorem take_part (w0 W : World) (T g R p : Nat) (σ : Rp.Sg) (h : TkR w0 W T g R σ) (hp : p < 10) :
    Calls Tryz.prog (takF p) #[.pointer (some ⟨T, 0, none⟩), .pointer (some ⟨R, p + 2, none⟩)] W fun e W' => e = .returned (.tuple #[]) ∧ TkR w0 W' T g R (σ.step p) ∧ Parts W W' := by
  obtain ⟨h1, h2, h3, h4, A, c, G, d, h5, h6, h7⟩ := h
  have hw : w0.heap.size ≤ W.heap.size := h1.2.2.1.size
  have hi : p + 2 < (σ.x.at_ A c G d).cells.size := by show p + 2 < 12; omega
  have hparts : ∀ W', (∀ k t ds, t ≠ 136 → t ≠ 105 → k ≠ R → Blk W k t ds → Blk W' k t ds) → Parts W W' := fun W' hf k cs hb => hf k _ cs (by decide) (by decide) (blk_ne hb h5 (by decide)) hb
  by_cases p0 : p = 0
  · subst p0
    refine (take_code w0 W T g R 2 σ.s σ.odd _ h1 h5 h3 h4 hi).mono ?_
    rintro e W' ⟨rfl, k1, k2, k3, k4⟩
    exact ⟨rfl, ⟨k1, h2, h3, h4, A, c, G, d, k2, own_frame h6 h5 k3 (by decide), own_frame h7 h5 k3 (by decide)⟩, hparts W' k3⟩
  by_cases p1 : p = 1
  · subst p1
    refine (take_flag w0 W T g R 3 σ.s σ.odd _ h1 h5 h3 h4 hi h2).mono ?_
    rintro e W' ⟨rfl, k1, k2, k3, k4⟩
    exact ⟨rfl, ⟨k1, h2, h3, h4, A, c, G, d, k2, own_frame h6 h5 k3 (by decide), own_frame h7 h5 k3 (by decide)⟩, hparts W' k3⟩
  by_cases p8 : p = 8
  · subst p8
    refine (take_rows w0 W T g R 10 σ.s σ.odd _ h1 h5 h3 h4 hi).mono ?_
    rintro e W' ⟨A', c', ⟨rfl, k1, k2, k3, k4⟩, ho⟩
    exact ⟨rfl, ⟨k1, h2, h3, h4, A', c', G, d, k2, own_lower ho hw, own_frame h7 h5 k3 (by decide)⟩, hparts W' k3⟩
  by_cases p9 : p = 9
  · subst p9
    refine (take_panes w0 W T g R 11 σ.s σ.odd _ h1 h5 h3 h4 hi).mono ?_
    rintro e W' ⟨A', c', ⟨rfl, k1, k2, k3, k4⟩, ho⟩
    exact ⟨rfl, ⟨k1, h2, h3, h4, A, c, A', c', k2, own_frame h6 h5 k3 (by decide), own_lower ho hw⟩, hparts W' k3⟩
  · rw [takF_num p (by omega) (by omega), σ.step_num p (by omega) (by omega)]
    refine (take_number w0 W T g R (p + 2) σ.s σ.odd _ h1 h5 h3 h4 hi).mono ?_
    rintro e W' ⟨rfl, k1, k2, k3, k4⟩
    rw [← σ.x.num_cells p _ (by omega) (by omega) A c G d] at k2
    obtain ⟨e1, e2, -⟩ := σ.x.num_nm p (Rp.vl σ.s 8)
    refine ⟨rfl, ⟨k1, h2, h3, h4, A, c, G, d, k2, ?_, ?_⟩, hparts W' k3⟩
    · dsimp only
      rw [e1]
      exact own_frame h6 h5 k3 (by decide)
    · dsimp only
      rw [e2]
      exact own_frame h7 h5 k3 (by decide)
/-- All parts, taken. -/
theorem take_visit (w0 W : World) (T g R k : Nat) (σ : Rp.Sg) (h : TkR w0 W T g R σ) (hk : σ.x.k = k) (hk2 : k < 256) :
    Calls Tryz.prog 39 #[.pointer (some ⟨R, 0, none⟩), .iface 108 (.pointer (some ⟨T, 0, none⟩))] W fun e W' => e = .returned (.tuple #[]) ∧ TkR w0 W' T g R ((Rp.pparts k).foldl Rp.Sg.step σ) := by
  have hc : W.cell? ⟨R, 0, none⟩ = some (.int .u8 (k : Int)) := by
    obtain ⟨h1, h2, h3, h4, A, c, G, d, h5, h6, h7⟩ := h
    rw [← hk]
    exact h5.cell 0
  refine visit_any R 108 k _ W (fun l wr => TkR w0 wr T g R (l.foldl Rp.Sg.step σ)) hk2 hc (fun w1 h1 => h.below h1) (fun j p wr hj hp hI => ?_)
  have hp10 : p < 10 := Rp.pparts_lt k p (by
    rw [← hp, List.getD_eq_getElem?_getD, List.getElem?_eq_getElem hj]
    exact List.getElem_mem _)
  have e1 : (Rp.pparts k).take (j + 1) = (Rp.pparts k).take j ++ [p] := by rw [take_snoc _ _ hj, hp]
  refine show_any R _ p _ _ takF wr _ hp10 (tak_visitor T) ((take_part w0 wr.drew T g R p _ (hI.below (Below.refl _ _).drew) hp10).mono ?_)
  rintro e w' ⟨rfl, h1, h2⟩
  refine ⟨rfl, ?_, (Parts.below ((Below.refl _ wr).drew)).trans h2⟩
  rw [e1, List.foldl_append]
  exact h1
end Go.Proofs.YtognlgklepgemaaGreat

namespace Go.Proofs.YtognlgklepgemaaGreat
open Go.ChangeShapes Go.WideShapes Go.ChangeAt Go.RowKit

namespace Rp
def s0 (b : List Nat) : Sg := ⟨⟨vl (b, false) 1, vl (nx (b, false) 1) 4, 0, false, 0, 0, 0, 0, 0, 0, none, 0, 0, none, 0, 0⟩, [], [], nx (nx (b, false) 1) 4, false⟩
def fin (b : List Nat) : Sg := (pparts (s0 b).x.k).foldl Sg.step (s0 b)
/-- Is the first byte, if there is one, no kind? -/
def tag (b : List Nat) : Bool := match b with | [] => false | y :: _ => !isK y
def Sg.done (σ : Sg) : Int := doneOf σ.s.2 σ.s.1.length
def Sg.err (σ : Sg) : Int := if σ.done = 0 then (if σ.odd || !σ.x.right σ.rows σ.gone then 81 else 0) else σ.done
def pse (b : List Nat) : Int := if tag b then 80 else (fin b).err
def psx (b : List Nat) : V := if pse b = 0 then (fin b).x else only 0 0
def psr (b : List Nat) : List Rw := if pse b = 0 then (fin b).rows else []
def psg (b : List Nat) : List Pn := if pse b = 0 then (fin b).gone else []
theorem s0_ok {b : List Nat} (h : ∀ y ∈ b, y < 256) : (s0 b).ok := by
  have h0 : St.ok (b, false) := h
  exact ⟨⟨vl_lt h0 1, vl_lt (nx_ok h0 1) 4, by show 0 < 65536; omega, by show 0 < 18446744073709551616; omega, by show 0 < 18446744073709551616; omega, by show 0 < 18446744073709551616; omega, by show 0 < 18446744073709551616; omega, by show 0 < 18446744073709551616; omega, by show 0 < 18446744073709551616; omega⟩, nx_ok (nx_ok h0 1) 4, by show 0 < 256; omega, by show 0 < 256; omega⟩
theorem fin_ok {b : List Nat} (h : ∀ y ∈ b, y < 256) : (fin b).ok := Sg.steps_ok _ (s0_ok h)
end Rp
/-- What Parse answers, in memory of its own. -/
def PsP (w : World) (b : List Nat) (e : Ending) (w' : World) : Prop :=
  ∃ A c G d, e = .returned (.tuple #[((Rp.psx b).at_ A c G d).val, .int .i64 (Rp.pse b)]) ∧ w'.ownsRow w.heap.size 49 7 (.slice A (Rp.psx b).n c) (Rp.psx b).n (rcells (Rp.psr b)) ∧ w'.ownsRow w.heap.size 45 3 (.slice G (Rp.psx b).m d) (Rp.psx b).m (pncells (Rp.psg b)) ∧ Below w.heap.size w w'
theorem psp_bad {w w' : World} {b : List Nat} {er : Int} (h : Rp.pse b = er) (h0 : er ≠ 0) (hb : Below w.heap.size w w') : PsP w b (.returned (.tuple #[.agg #[.int .u8 0, .int .u32 0, .int .u16 0, .bool false, .int .u64 0, .int .u64 0, .int .u64 0, .int .u64 0, .int .u64 0, .int .u64 0, .slice none 0 0, .slice none 0 0], .int .i64 er])) w' := by
  have e1 : Rp.psx b = Rp.only 0 0 := if_neg (by rw [h]; exact h0)
  have e2 : Rp.psr b = [] := if_neg (by rw [h]; exact h0)
  have e3 : Rp.psg b = [] := if_neg (by rw [h]; exact h0)
  unfold PsP
  rw [e1, e2, e3, h]
  exact ⟨none, 0, none, 0, rfl, own_nil _ _ _ _, own_nil _ _ _ _, hb⟩
theorem psp_good {w w' : World} {b : List Nat} {A : Option Addr} {c : Nat} {G : Option Addr} {d : Nat} {v : Value} (h : Rp.pse b = 0) (hv : ((Rp.fin b).x.at_ A c G d).val = v) (h1 : w'.ownsRow w.heap.size 49 7 (.slice A (Rp.fin b).x.n c) (Rp.fin b).x.n (rcells (Rp.fin b).rows)) (h2 : w'.ownsRow w.heap.size 45 3 (.slice G (Rp.fin b).x.m d) (Rp.fin b).x.m (pncells (Rp.fin b).gone)) (hb : Below w.heap.size w w') : PsP w b (.returned (.tuple #[v, .int .i64 0])) w' := by
  have e1 : Rp.psx b = (Rp.fin b).x := if_pos h
  have e2 : Rp.psr b = (Rp.fin b).rows := if_pos h
  have e3 : Rp.psg b = (Rp.fin b).gone := if_pos h
  unfold PsP
  rw [e1, e2, e3, h]
  exact ⟨A, c, G, d, by rw [hv], h1, h2, hb⟩
set_option maxRecDepth 100000 in
set_option maxHeartbeats 8000000 in
theorem pParse8_any (n c B : Nat) (A : Option Addr) (b : List Nat) (w : World) (hb : Bytes w B A n b) (hB : B ≤ w.heap.size) (hn : n ≤ 1000000) : Calls Tryz.prog 23 #[.slice A n c] w (PsP w b) := by
  obtain ⟨W1, hW1⟩ : ∃ W, w.alloc (.cells #[.int .u8 0, .int .u32 0, .int .u16 0, .bool false, .int .u64 0, .int .u64 0, .int .u64 0, .int .u64 0, .int .u64 0, .int .u64 0, .slice none 0 0, .slice none 0 0] 28) = W := ⟨_, rfl⟩
  have B1 : Below w.heap.size w W1 := by
    rw [← hW1]
    exact (Below.refl _ _).alloc (Nat.le_refl _) _
  have K1 : Blk W1 w.heap.size 28 #[.int .u8 0, .int .u32 0, .int .u16 0, .bool false, .int .u64 0, .int .u64 0, .int .u64 0, .int .u64 0, .int .u64 0, .int .u64 0, .slice none 0 0, .slice none 0 0] := by
    rw [← hW1]
    exact Blk.new w _ _
  have hz1 : w.heap.size < W1.heap.size := K1.lt
  have hlen := hb.1
  have COf : Hid (Calls Tryz.prog 54 #[.slice A n c] W1 (OfPost W1 b)) := Lib.hid (of_any n c B A b W1 (hb.below B1 hB) (Nat.le_trans hB B1.size) hn)
  have hok := Rp.fin_ok hb.2.1
  have hk256 : (Rp.s0 b).x.k < 256 := (Rp.s0_ok hb.2.1).1.1
  have HB := Lib.hid (And.intro B1 K1)
  by_cases h0 : 0 < n
  rotate_left
  · obtain rfl : n = 0 := by omega
    have htag : Rp.tag b = false := by
      obtain rfl : b = [] := List.eq_nil_of_length_eq_zero hlen
      rfl
    have hpse : Rp.pse b = (Rp.fin b).err := if_neg (by rw [htag]; decide)
    clear h0 hb hB htag hn B1 K1
    go_enter Tryz.func23, Tryz.ntmps23
    go_wp2_with fail
    clear hW1
    refine COf.out.mono ?_
    rintro e w3 ⟨g, rfl, hrd, hgl, b3⟩
    have hgw := hrd.here
    have b3' : Below w3.heap.size w3 (w3.alloc (.cells #[.pointer (some ⟨g, 0, none⟩), .bool false] 105)) := (Below.refl _ _).alloc (Nat.le_refl _) _
    have T3 : Tk W1 (w3.alloc (.cells #[.pointer (some ⟨g, 0, none⟩), .bool false] 105)) w3.heap.size g (b, false) false := ⟨Blk.new w3 _ _, hrd.below b3' hgw, below_next b3 b3', hgl, b3.size⟩
    have H3 := Lib.hid T3
    obtain ⟨t0, -⟩ := T3.cell
    obtain ⟨T, hT⟩ : ∃ T, w3.heap.size = T := ⟨_, rfl⟩
    have hgT : g < T := by omega
    clear hrd hgl b3 b3' T3 COf
    go_wp2_with fail
    clear t0
    refine (tk_u8 H3.out).mono ?_
    rintro e w4 ⟨rfl, k4, t4⟩
    obtain ⟨k, hk⟩ : ∃ k, Rp.vl (b, false) 1 = k := ⟨_, rfl⟩
    rw [hk]
    rw [hT] at k4
    have b4 : Below w4.heap.size w4 (w4.alloc (.cells #[.int .u8 (k : Int), .int .u32 0, .int .u16 0, .bool false, .int .u64 0, .int .u64 0, .int .u64 0, .int .u64 0, .int .u64 0, .int .u64 0, .slice none 0 0, .slice none 0 0] 28)) := (Below.refl _ _).alloc (Nat.le_refl _) _
    have H4 := Lib.hid (And.intro (k4.below b4) (Blk.new w4 28 #[.int .u8 (k : Int), .int .u32 0, .int .u16 0, .bool false, .int .u64 0, .int .u64 0, .int .u64 0, .int .u64 0, .int .u64 0, .int .u64 0, .slice none 0 0, .slice none 0 0]))
    have hgR : g < w4.heap.size := k4.here
    have hTR : T < w4.heap.size := k4.top
    obtain ⟨t0, -⟩ := H4.out.1.cell
    clear k4 t4 b4
    go_wp2_with fail
    clear t0
    refine (tk_u32 H4.out.1).mono ?_
    rintro e w5 ⟨rfl, k5, t5⟩
    obtain ⟨id, hid⟩ : ∃ k, Rp.vl (Rp.nx (b, false) 1) 4 = k := ⟨_, rfl⟩
    rw [hid]
    have K5 := t5.1 _ _ _ (by decide) H4.out.2
    have l5 : w5.cell? ⟨w4.heap.size, 1, none⟩ = some (.int .u32 0) := K5.cell 1
    have f5 := K5.frozen 1
    have k6 := k5.set (P := w4.heap.size) (i := 1) hgR (by omega) (.int .u32 (id : Int))
    have es0 : Rp.s0 b = ⟨⟨k, id, 0, false, 0, 0, 0, 0, 0, 0, none, 0, 0, none, 0, 0⟩, [], [], Rp.nx (Rp.nx (b, false) 1) 4, false⟩ := by
      unfold Rp.s0
      rw [hk, hid]
    have T6 : TkR W1 (w5.setCell ⟨w4.heap.size, 1, none⟩ (.int .u32 (id : Int))) T g w4.heap.size (Rp.s0 b) := by
      rw [es0]
      exact ⟨k6, hgT, hgR, by omega, none, 0, none, 0, K5.set_ 1 (.int .u32 (id : Int)), own_nil _ _ _ _, own_nil _ _ _ _⟩
    have H6 := Lib.hid (take_visit W1 _ T g w4.heap.size (Rp.s0 b).x.k (Rp.s0 b) T6 rfl hk256)
    clear k5 t5 K5 k6 es0 T6
    go_wp2_with fail
    clear l5 f5
    refine H6.out.mono ?_
    rintro e w6 ⟨rfl, hfin⟩
    have efin : (Rp.pparts (Rp.s0 b).x.k).foldl Rp.Sg.step (Rp.s0 b) = Rp.fin b := rfl
    rw [efin] at hfin
    clear efin
    obtain ⟨ht6, -, -, -, A5, c5, G5, d5, hbR, ho1, ho2⟩ := hfin
    have hP0 := HB.out.2.below ht6.2.2.1 hz1
    have hb6 : Below w.heap.size w w6 := below_next HB.out.1 ht6.2.2.1
    obtain ⟨t0, t1, -⟩ := ht6.cell
    have CD := Lib.hid (done_any _ g _ _ w6 ht6.2.1)
    obtain ⟨dn, hdn⟩ : ∃ dn, doneOf (Rp.fin b).s.2 (Rp.fin b).s.1.length = dn := ⟨_, rfl⟩
    rw [hdn] at CD
    have herr : Rp.pse b = if dn = 0 then (if (Rp.fin b).odd || !(Rp.fin b).x.right (Rp.fin b).rows (Rp.fin b).gone then 81 else 0) else dn := by
      rw [hpse]
      unfold Rp.Sg.err Rp.Sg.done
      rw [hdn]
    have HE := Lib.hid herr
    have HH := Lib.hid (And.intro hbR (And.intro ho1 (And.intro ho2 (And.intro hb6 hP0))))
    clear hpse herr hdn H6 H3 H4 hk hid
    have p0 := hP0.cell 0
    have q0 := hP0.frozen 0
    have p1 := hP0.cell 1
    have q1 := hP0.frozen 1
    have p2 := hP0.cell 2
    have q2 := hP0.frozen 2
    have p3 := hP0.cell 3
    have q3 := hP0.frozen 3
    have p4 := hP0.cell 4
    have q4 := hP0.frozen 4
    have p5 := hP0.cell 5
    have q5 := hP0.frozen 5
    have p6 := hP0.cell 6
    have q6 := hP0.frozen 6
    have p7 := hP0.cell 7
    have q7 := hP0.frozen 7
    have p8 := hP0.cell 8
    have q8 := hP0.frozen 8
    have p9 := hP0.cell 9
    have q9 := hP0.frozen 9
    have p10 := hP0.cell 10
    have q10 := hP0.frozen 10
    have p11 := hP0.cell 11
    have q11 := hP0.frozen 11
    have CRt : Hid (∀ W, Below w6.heap.size w6 W → Calls Tryz.prog 19 #[((Rp.fin b).x.at_ A5 c5 G5 d5).val] W fun e w' => e = .returned (.bool ((Rp.fin b).x.right (Rp.fin b).rows (Rp.fin b).gone)) ∧ Below W.heap.size W w') := Lib.hid fun W hW => by
      have h := pRight8_any ((Rp.fin b).x.at_ A5 c5 G5 d5) (Rp.fin b).rows (Rp.fin b).gone w6.heap.size W ⟨(RowsIn.of_own ho1).below hW (Nat.le_refl _), (PansIn.of_own ho2).below hW (Nat.le_refl _)⟩ hW.size hok.1 (Nat.le_of_lt (Nat.lt_of_lt_of_le hok.2.2.1 (by omega))) (Nat.le_of_lt (Nat.lt_of_lt_of_le hok.2.2.2 (by omega)))
      rw [Rp.right_at] at h
      exact h
    have PG : Hid (∀ w', Rp.pse b = 0 → w'.ownsRow w.heap.size 49 7 (.slice A5 (Rp.fin b).x.n c5) (Rp.fin b).x.n (rcells (Rp.fin b).rows) → w'.ownsRow w.heap.size 45 3 (.slice G5 (Rp.fin b).x.m d5) (Rp.fin b).x.m (pncells (Rp.fin b).gone) → Below w.heap.size w w' → PsP w b (.returned (.tuple #[((Rp.fin b).x.at_ A5 c5 G5 d5).val, .int .i64 0])) w') := Lib.hid fun w' h h1 h2 hb => psp_good h rfl h1 h2 hb
    obtain ⟨σ, hσ⟩ : ∃ σ, Rp.fin b = σ := ⟨_, rfl⟩
    rw [hσ] at HE HH CRt PG t1
    clear hok hbR ho1 ho2 hb6 hP0 hσ ht6
    obtain ⟨⟨xk, xid, xcode, xlast, xep, xfl, xun, xle, xst, xti, xA, xn, xc, xG, xm, xd⟩, rows, gone, ss, odd⟩ := σ
    unfold Rp.V.at_ at CRt PG HH
    unfold Rp.V.val at CRt PG
    unfold Rp.V.cells at CRt PG HH
    dsimp only at HE HH CRt PG t1
    obtain ⟨rt, hrt⟩ : ∃ r, Rp.V.right ⟨xk, xid, xcode, xlast, xep, xfl, xun, xle, xst, xti, xA, xn, xc, xG, xm, xd⟩ rows gone = r := ⟨_, rfl⟩
    rw [hrt] at HE CRt
    clear hrt
    obtain ⟨rc0, rc1, rc2, rc3, rc4, rc5, rc6, rc7, rc8, rc9, rc10, rc11⟩ := (rep_cells (Y := ⟨xk, xid, xcode, xlast, xep, xfl, xun, xle, xst, xti, A5, xn, c5, G5, xm, d5⟩) HH.out.1).1
    go_wp2_with fail
    clear t0
    refine CD.out.mono ?_
    rintro e w7 ⟨rfl, rfl⟩
    by_cases hd0 : dn = 0
    rotate_left
    · have i7 : (dn == 0) = false := by rw [beq_eq_false_iff_ne]; exact hd0
      have i8 : (dn != 0) = true := by rw [bne_iff_ne]; exact hd0
      have HP := Lib.hid (show Rp.pse b = dn by rw [HE.out, if_neg hd0])
      have HD := Lib.hid hd0
      go_wp2_with fail
      refine bodyPost_ret (v := .tuple #[.agg #[.int .u8 0, .int .u32 0, .int .u16 0, .bool false, .int .u64 0, .int .u64 0, .int .u64 0, .int .u64 0, .int .u64 0, .int .u64 0, .slice none 0 0, .slice none 0 0], .int .i64 dn]) ?_ rfl (psp_bad HP.out HD.out (below_12 HH.out.2.2.2.1 (Nat.le_refl _) _ _ _ _ _ _ _ _ _ _ _ _))
      simp [results, Tryz.results23, go_sem, p0, p1, p2, p3, p4, p5, p6, p7, p8, p9, p10, p11]
    subst hd0
    cases odd
    rotate_left
    · have HP := Lib.hid (show Rp.pse b = 81 by rw [HE.out]; rfl)
      go_wp2_with fail
      refine bodyPost_ret (v := .tuple #[.agg #[.int .u8 0, .int .u32 0, .int .u16 0, .bool false, .int .u64 0, .int .u64 0, .int .u64 0, .int .u64 0, .int .u64 0, .int .u64 0, .slice none 0 0, .slice none 0 0], .int .i64 81]) ?_ rfl (psp_bad HP.out (by decide) (below_12 HH.out.2.2.2.1 (Nat.le_refl _) _ _ _ _ _ _ _ _ _ _ _ _))
      simp [results, Tryz.results23, go_sem, p0, p1, p2, p3, p4, p5, p6, p7, p8, p9, p10, p11]
    go_wp2_with fail
    refine (CRt.out _ (Below.refl _ _)).mono ?_
    rintro e w8 ⟨rfl, b8⟩
    have hP8 := HH.out.2.2.2.2.below b8 HH.out.2.2.2.2.lt
    have hR8 := HH.out.1.below b8 HH.out.1.lt
    have H8 := Lib.hid (And.intro hP8 (And.intro (own_below HH.out.2.1 b8) (And.intro (own_below HH.out.2.2.1 b8) (below_next HH.out.2.2.2.1 b8))))
    clear p0 p1 p2 p3 p4 p5 p6 p7 p8 p9 p10 p11 q0 q1 q2 q3 q4 q5 q6 q7 q8 q9 q10 q11 rc0 rc1 rc2 rc3 rc4 rc5 rc6 rc7 rc8 rc9 rc10 rc11 t1
    have p0 := hP8.cell 0
    have q0 := hP8.frozen 0
    have p1 := hP8.cell 1
    have q1 := hP8.frozen 1
    have p2 := hP8.cell 2
    have q2 := hP8.frozen 2
    have p3 := hP8.cell 3
    have q3 := hP8.frozen 3
    have p4 := hP8.cell 4
    have q4 := hP8.frozen 4
    have p5 := hP8.cell 5
    have q5 := hP8.frozen 5
    have p6 := hP8.cell 6
    have q6 := hP8.frozen 6
    have p7 := hP8.cell 7
    have q7 := hP8.frozen 7
    have p8 := hP8.cell 8
    have q8 := hP8.frozen 8
    have p9 := hP8.cell 9
    have q9 := hP8.frozen 9
    have p10 := hP8.cell 10
    have q10 := hP8.frozen 10
    have p11 := hP8.cell 11
    have q11 := hP8.frozen 11
    obtain ⟨rc0, rc1, rc2, rc3, rc4, rc5, rc6, rc7, rc8, rc9, rc10, rc11⟩ := (rep_cells (Y := ⟨xk, xid, xcode, xlast, xep, xfl, xun, xle, xst, xti, A5, xn, c5, G5, xm, d5⟩) hR8).1
    clear hP8 hR8 b8
    cases rt
    · have HP := Lib.hid (show Rp.pse b = 81 by rw [HE.out]; rfl)
      go_wp2_with fail
      refine bodyPost_ret (v := .tuple #[.agg #[.int .u8 0, .int .u32 0, .int .u16 0, .bool false, .int .u64 0, .int .u64 0, .int .u64 0, .int .u64 0, .int .u64 0, .int .u64 0, .slice none 0 0, .slice none 0 0], .int .i64 81]) ?_ rfl (psp_bad HP.out (by decide) (below_12 H8.out.2.2.2 (Nat.le_refl _) _ _ _ _ _ _ _ _ _ _ _ _))
      simp [results, Tryz.results23, go_sem, p0, p1, p2, p3, p4, p5, p6, p7, p8, p9, p10, p11]
    · have HP := Lib.hid (show Rp.pse b = 0 by rw [HE.out]; rfl)
      go_wp2_with fail
      refine bodyPost_ret (v := .tuple #[.agg #[.int .u8 (xk : Int), .int .u32 (xid : Int), .int .u16 (xcode : Int), .bool xlast, .int .u64 (xep : Int), .int .u64 (xfl : Int), .int .u64 (xun : Int), .int .u64 (xle : Int), .int .u64 (xst : Int), .int .u64 (xti : Int), .slice A5 xn c5, .slice G5 xm d5], .int .i64 0]) ?_ rfl (PG.out _ HP.out (own_off (own_lower H8.out.2.1 (Nat.le_of_lt hz1)) (grown_12 _ _ _ _ _ _ _ _ _ _ _ _ _ _) H8.out.1 (by decide)) (own_off (own_lower H8.out.2.2.1 (Nat.le_of_lt hz1)) (grown_12 _ _ _ _ _ _ _ _ _ _ _ _ _ _) H8.out.1 (by decide)) (below_12 H8.out.2.2.2 (Nat.le_refl _) _ _ _ _ _ _ _ _ _ _ _ _))
      simp [results, Tryz.results23, go_sem, p0, p1, p2, p3, p4, p5, p6, p7, p8, p9, p10, p11]
  · obtain ⟨bb, off, rfl, hbb, hc⟩ := hb.2.2 h0
    have hc0 := hc 0 h0
    rw [Nat.add_zero] at hc0
    obtain ⟨y, hy⟩ : ∃ y, b.getD 0 0 = y := ⟨_, rfl⟩
    have hy256 := hb.lt 0
    rw [hy] at hc0 hy256
    have d0 : W1.cell? ⟨bb, off, none⟩ = some (.int .u8 (y : Int)) := (B1.cell (p := ⟨bb, off, none⟩) (by show bb < w.heap.size; omega)).trans hc0
    have i1 : (0 : Int) < n := by omega
    have htag : Rp.tag b = !Rp.isK y := by
      cases b with
      | nil => simp at hlen; omega
      | cons z l =>
        have : z = y := by simpa using hy
        subst this
        rfl
    have CK := Lib.hid (isKind_any y W1 hy256)
    cases hK : Rp.isK y
    · have hpse : Rp.pse b = 80 := if_pos (by rw [htag, hK]; rfl)
      rw [hK] at CK
      clear hb hB hn h0 hc hc0 hy hy256 hlen hok hk256 B1 htag hK
      have p0 := K1.cell 0
      have p1 := K1.cell 1
      have p2 := K1.cell 2
      have p3 := K1.cell 3
      have p4 := K1.cell 4
      have p5 := K1.cell 5
      have p6 := K1.cell 6
      have p7 := K1.cell 7
      have p8 := K1.cell 8
      have p9 := K1.cell 9
      have p10 := K1.cell 10
      have p11 := K1.cell 11
      have q0 := K1.frozen 0
      have q1 := K1.frozen 1
      have q2 := K1.frozen 2
      have q3 := K1.frozen 3
      have q4 := K1.frozen 4
      have q5 := K1.frozen 5
      have q6 := K1.frozen 6
      have q7 := K1.frozen 7
      have q8 := K1.frozen 8
      have q9 := K1.frozen 9
      have q10 := K1.frozen 10
      have q11 := K1.frozen 11
      have HP := Lib.hid hpse
      clear K1 hpse
      go_enter Tryz.func23, Tryz.ntmps23
      go_wp2_with fail
      clear hW1
      refine CK.out.mono ?_
      rintro e w2 ⟨rfl, rfl⟩
      go_wp2_with fail
      refine bodyPost_ret (v := .tuple #[.agg #[.int .u8 0, .int .u32 0, .int .u16 0, .bool false, .int .u64 0, .int .u64 0, .int .u64 0, .int .u64 0, .int .u64 0, .int .u64 0, .slice none 0 0, .slice none 0 0], .int .i64 80]) ?_ rfl (psp_bad HP.out (by decide) (below_12 HB.out.1 (Nat.le_refl _) _ _ _ _ _ _ _ _ _ _ _ _))
      simp [results, Tryz.results23, go_sem, p0, p1, p2, p3, p4, p5, p6, p7, p8, p9, p10, p11]
    · have hpse : Rp.pse b = (Rp.fin b).err := if_neg (by rw [htag, hK]; decide)
      rw [hK] at CK
      clear hb hB hn h0 hc hc0 hy hy256 B1 K1 htag hK
      go_enter Tryz.func23, Tryz.ntmps23
      go_wp2_with fail
      clear hW1
      refine CK.out.mono ?_
      rintro e w2 ⟨rfl, rfl⟩
      go_wp2_with fail
      clear d0 i1
      refine COf.out.mono ?_
      rintro e w3 ⟨g, rfl, hrd, hgl, b3⟩
      have hgw := hrd.here
      have b3' : Below w3.heap.size w3 (w3.alloc (.cells #[.pointer (some ⟨g, 0, none⟩), .bool false] 105)) := (Below.refl _ _).alloc (Nat.le_refl _) _
      have T3 : Tk W1 (w3.alloc (.cells #[.pointer (some ⟨g, 0, none⟩), .bool false] 105)) w3.heap.size g (b, false) false := ⟨Blk.new w3 _ _, hrd.below b3' hgw, below_next b3 b3', hgl, b3.size⟩
      have H3 := Lib.hid T3
      obtain ⟨t0, -⟩ := T3.cell
      obtain ⟨T, hT⟩ : ∃ T, w3.heap.size = T := ⟨_, rfl⟩
      have hgT : g < T := by omega
      clear hrd hgl b3 b3' T3 COf
      go_wp2_with fail
      clear t0
      refine (tk_u8 H3.out).mono ?_
      rintro e w4 ⟨rfl, k4, t4⟩
      obtain ⟨k, hk⟩ : ∃ k, Rp.vl (b, false) 1 = k := ⟨_, rfl⟩
      rw [hk]
      rw [hT] at k4
      have b4 : Below w4.heap.size w4 (w4.alloc (.cells #[.int .u8 (k : Int), .int .u32 0, .int .u16 0, .bool false, .int .u64 0, .int .u64 0, .int .u64 0, .int .u64 0, .int .u64 0, .int .u64 0, .slice none 0 0, .slice none 0 0] 28)) := (Below.refl _ _).alloc (Nat.le_refl _) _
      have H4 := Lib.hid (And.intro (k4.below b4) (Blk.new w4 28 #[.int .u8 (k : Int), .int .u32 0, .int .u16 0, .bool false, .int .u64 0, .int .u64 0, .int .u64 0, .int .u64 0, .int .u64 0, .int .u64 0, .slice none 0 0, .slice none 0 0]))
      have hgR : g < w4.heap.size := k4.here
      have hTR : T < w4.heap.size := k4.top
      obtain ⟨t0, -⟩ := H4.out.1.cell
      clear k4 t4 b4
      go_wp2_with fail
      clear t0
      refine (tk_u32 H4.out.1).mono ?_
      rintro e w5 ⟨rfl, k5, t5⟩
      obtain ⟨id, hid⟩ : ∃ k, Rp.vl (Rp.nx (b, false) 1) 4 = k := ⟨_, rfl⟩
      rw [hid]
      have K5 := t5.1 _ _ _ (by decide) H4.out.2
      have l5 : w5.cell? ⟨w4.heap.size, 1, none⟩ = some (.int .u32 0) := K5.cell 1
      have f5 := K5.frozen 1
      have k6 := k5.set (P := w4.heap.size) (i := 1) hgR (by omega) (.int .u32 (id : Int))
      have es0 : Rp.s0 b = ⟨⟨k, id, 0, false, 0, 0, 0, 0, 0, 0, none, 0, 0, none, 0, 0⟩, [], [], Rp.nx (Rp.nx (b, false) 1) 4, false⟩ := by
        unfold Rp.s0
        rw [hk, hid]
      have T6 : TkR W1 (w5.setCell ⟨w4.heap.size, 1, none⟩ (.int .u32 (id : Int))) T g w4.heap.size (Rp.s0 b) := by
        rw [es0]
        exact ⟨k6, hgT, hgR, by omega, none, 0, none, 0, K5.set_ 1 (.int .u32 (id : Int)), own_nil _ _ _ _, own_nil _ _ _ _⟩
      have H6 := Lib.hid (take_visit W1 _ T g w4.heap.size (Rp.s0 b).x.k (Rp.s0 b) T6 rfl hk256)
      clear k5 t5 K5 k6 es0 T6
      go_wp2_with fail
      clear l5 f5
      refine H6.out.mono ?_
      rintro e w6 ⟨rfl, hfin⟩
      have efin : (Rp.pparts (Rp.s0 b).x.k).foldl Rp.Sg.step (Rp.s0 b) = Rp.fin b := rfl
      rw [efin] at hfin
      clear efin
      obtain ⟨ht6, -, -, -, A5, c5, G5, d5, hbR, ho1, ho2⟩ := hfin
      have hP0 := HB.out.2.below ht6.2.2.1 hz1
      have hb6 : Below w.heap.size w w6 := below_next HB.out.1 ht6.2.2.1
      obtain ⟨t0, t1, -⟩ := ht6.cell
      have CD := Lib.hid (done_any _ g _ _ w6 ht6.2.1)
      obtain ⟨dn, hdn⟩ : ∃ dn, doneOf (Rp.fin b).s.2 (Rp.fin b).s.1.length = dn := ⟨_, rfl⟩
      rw [hdn] at CD
      have herr : Rp.pse b = if dn = 0 then (if (Rp.fin b).odd || !(Rp.fin b).x.right (Rp.fin b).rows (Rp.fin b).gone then 81 else 0) else dn := by
        rw [hpse]
        unfold Rp.Sg.err Rp.Sg.done
        rw [hdn]
      have HE := Lib.hid herr
      have HH := Lib.hid (And.intro hbR (And.intro ho1 (And.intro ho2 (And.intro hb6 hP0))))
      clear hpse herr hdn H6 H3 H4 hk hid
      have p0 := hP0.cell 0
      have q0 := hP0.frozen 0
      have p1 := hP0.cell 1
      have q1 := hP0.frozen 1
      have p2 := hP0.cell 2
      have q2 := hP0.frozen 2
      have p3 := hP0.cell 3
      have q3 := hP0.frozen 3
      have p4 := hP0.cell 4
      have q4 := hP0.frozen 4
      have p5 := hP0.cell 5
      have q5 := hP0.frozen 5
      have p6 := hP0.cell 6
      have q6 := hP0.frozen 6
      have p7 := hP0.cell 7
      have q7 := hP0.frozen 7
      have p8 := hP0.cell 8
      have q8 := hP0.frozen 8
      have p9 := hP0.cell 9
      have q9 := hP0.frozen 9
      have p10 := hP0.cell 10
      have q10 := hP0.frozen 10
      have p11 := hP0.cell 11
      have q11 := hP0.frozen 11
      have CRt : Hid (∀ W, Below w6.heap.size w6 W → Calls Tryz.prog 19 #[((Rp.fin b).x.at_ A5 c5 G5 d5).val] W fun e w' => e = .returned (.bool ((Rp.fin b).x.right (Rp.fin b).rows (Rp.fin b).gone)) ∧ Below W.heap.size W w') := Lib.hid fun W hW => by
        have h := pRight8_any ((Rp.fin b).x.at_ A5 c5 G5 d5) (Rp.fin b).rows (Rp.fin b).gone w6.heap.size W ⟨(RowsIn.of_own ho1).below hW (Nat.le_refl _), (PansIn.of_own ho2).below hW (Nat.le_refl _)⟩ hW.size hok.1 (Nat.le_of_lt (Nat.lt_of_lt_of_le hok.2.2.1 (by omega))) (Nat.le_of_lt (Nat.lt_of_lt_of_le hok.2.2.2 (by omega)))
        rw [Rp.right_at] at h
        exact h
      have PG : Hid (∀ w', Rp.pse b = 0 → w'.ownsRow w.heap.size 49 7 (.slice A5 (Rp.fin b).x.n c5) (Rp.fin b).x.n (rcells (Rp.fin b).rows) → w'.ownsRow w.heap.size 45 3 (.slice G5 (Rp.fin b).x.m d5) (Rp.fin b).x.m (pncells (Rp.fin b).gone) → Below w.heap.size w w' → PsP w b (.returned (.tuple #[((Rp.fin b).x.at_ A5 c5 G5 d5).val, .int .i64 0])) w') := Lib.hid fun w' h h1 h2 hb => psp_good h rfl h1 h2 hb
      obtain ⟨σ, hσ⟩ : ∃ σ, Rp.fin b = σ := ⟨_, rfl⟩
      rw [hσ] at HE HH CRt PG t1
      clear hok hbR ho1 ho2 hb6 hP0 hσ ht6
      obtain ⟨⟨xk, xid, xcode, xlast, xep, xfl, xun, xle, xst, xti, xA, xn, xc, xG, xm, xd⟩, rows, gone, ss, odd⟩ := σ
      unfold Rp.V.at_ at CRt PG HH
      unfold Rp.V.val at CRt PG
      unfold Rp.V.cells at CRt PG HH
      dsimp only at HE HH CRt PG t1
      obtain ⟨rt, hrt⟩ : ∃ r, Rp.V.right ⟨xk, xid, xcode, xlast, xep, xfl, xun, xle, xst, xti, xA, xn, xc, xG, xm, xd⟩ rows gone = r := ⟨_, rfl⟩
      rw [hrt] at HE CRt
      clear hrt
      obtain ⟨rc0, rc1, rc2, rc3, rc4, rc5, rc6, rc7, rc8, rc9, rc10, rc11⟩ := (rep_cells (Y := ⟨xk, xid, xcode, xlast, xep, xfl, xun, xle, xst, xti, A5, xn, c5, G5, xm, d5⟩) HH.out.1).1
      go_wp2_with fail
      clear t0
      refine CD.out.mono ?_
      rintro e w7 ⟨rfl, rfl⟩
      by_cases hd0 : dn = 0
      rotate_left
      · have i7 : (dn == 0) = false := by rw [beq_eq_false_iff_ne]; exact hd0
        have i8 : (dn != 0) = true := by rw [bne_iff_ne]; exact hd0
        have HP := Lib.hid (show Rp.pse b = dn by rw [HE.out, if_neg hd0])
        have HD := Lib.hid hd0
        go_wp2_with fail
        refine bodyPost_ret (v := .tuple #[.agg #[.int .u8 0, .int .u32 0, .int .u16 0, .bool false, .int .u64 0, .int .u64 0, .int .u64 0, .int .u64 0, .int .u64 0, .int .u64 0, .slice none 0 0, .slice none 0 0], .int .i64 dn]) ?_ rfl (psp_bad HP.out HD.out (below_12 HH.out.2.2.2.1 (Nat.le_refl _) _ _ _ _ _ _ _ _ _ _ _ _))
        simp [results, Tryz.results23, go_sem, p0, p1, p2, p3, p4, p5, p6, p7, p8, p9, p10, p11]
      subst hd0
      cases odd
      rotate_left
      · have HP := Lib.hid (show Rp.pse b = 81 by rw [HE.out]; rfl)
        go_wp2_with fail
        refine bodyPost_ret (v := .tuple #[.agg #[.int .u8 0, .int .u32 0, .int .u16 0, .bool false, .int .u64 0, .int .u64 0, .int .u64 0, .int .u64 0, .int .u64 0, .int .u64 0, .slice none 0 0, .slice none 0 0], .int .i64 81]) ?_ rfl (psp_bad HP.out (by decide) (below_12 HH.out.2.2.2.1 (Nat.le_refl _) _ _ _ _ _ _ _ _ _ _ _ _))
        simp [results, Tryz.results23, go_sem, p0, p1, p2, p3, p4, p5, p6, p7, p8, p9, p10, p11]
      go_wp2_with fail
      refine (CRt.out _ (Below.refl _ _)).mono ?_
      rintro e w8 ⟨rfl, b8⟩
      have hP8 := HH.out.2.2.2.2.below b8 HH.out.2.2.2.2.lt
      have hR8 := HH.out.1.below b8 HH.out.1.lt
      have H8 := Lib.hid (And.intro hP8 (And.intro (own_below HH.out.2.1 b8) (And.intro (own_below HH.out.2.2.1 b8) (below_next HH.out.2.2.2.1 b8))))
      clear p0 p1 p2 p3 p4 p5 p6 p7 p8 p9 p10 p11 q0 q1 q2 q3 q4 q5 q6 q7 q8 q9 q10 q11 rc0 rc1 rc2 rc3 rc4 rc5 rc6 rc7 rc8 rc9 rc10 rc11 t1
      have p0 := hP8.cell 0
      have q0 := hP8.frozen 0
      have p1 := hP8.cell 1
      have q1 := hP8.frozen 1
      have p2 := hP8.cell 2
      have q2 := hP8.frozen 2
      have p3 := hP8.cell 3
      have q3 := hP8.frozen 3
      have p4 := hP8.cell 4
      have q4 := hP8.frozen 4
      have p5 := hP8.cell 5
      have q5 := hP8.frozen 5
      have p6 := hP8.cell 6
      have q6 := hP8.frozen 6
      have p7 := hP8.cell 7
      have q7 := hP8.frozen 7
      have p8 := hP8.cell 8
      have q8 := hP8.frozen 8
      have p9 := hP8.cell 9
      have q9 := hP8.frozen 9
      have p10 := hP8.cell 10
      have q10 := hP8.frozen 10
      have p11 := hP8.cell 11
      have q11 := hP8.frozen 11
      obtain ⟨rc0, rc1, rc2, rc3, rc4, rc5, rc6, rc7, rc8, rc9, rc10, rc11⟩ := (rep_cells (Y := ⟨xk, xid, xcode, xlast, xep, xfl, xun, xle, xst, xti, A5, xn, c5, G5, xm, d5⟩) hR8).1
      clear hP8 hR8 b8
      cases rt
      · have HP := Lib.hid (show Rp.pse b = 81 by rw [HE.out]; rfl)
        go_wp2_with fail
        refine bodyPost_ret (v := .tuple #[.agg #[.int .u8 0, .int .u32 0, .int .u16 0, .bool false, .int .u64 0, .int .u64 0, .int .u64 0, .int .u64 0, .int .u64 0, .int .u64 0, .slice none 0 0, .slice none 0 0], .int .i64 81]) ?_ rfl (psp_bad HP.out (by decide) (below_12 H8.out.2.2.2 (Nat.le_refl _) _ _ _ _ _ _ _ _ _ _ _ _))
        simp [results, Tryz.results23, go_sem, p0, p1, p2, p3, p4, p5, p6, p7, p8, p9, p10, p11]
      · have HP := Lib.hid (show Rp.pse b = 0 by rw [HE.out]; rfl)
        go_wp2_with fail
        refine bodyPost_ret (v := .tuple #[.agg #[.int .u8 (xk : Int), .int .u32 (xid : Int), .int .u16 (xcode : Int), .bool xlast, .int .u64 (xep : Int), .int .u64 (xfl : Int), .int .u64 (xun : Int), .int .u64 (xle : Int), .int .u64 (xst : Int), .int .u64 (xti : Int), .slice A5 xn c5, .slice G5 xm d5], .int .i64 0]) ?_ rfl (PG.out _ HP.out (own_off (own_lower H8.out.2.1 (Nat.le_of_lt hz1)) (grown_12 _ _ _ _ _ _ _ _ _ _ _ _ _ _) H8.out.1 (by decide)) (own_off (own_lower H8.out.2.2.1 (Nat.le_of_lt hz1)) (grown_12 _ _ _ _ _ _ _ _ _ _ _ _ _ _) H8.out.1 (by decide)) (below_12 H8.out.2.2.2 (Nat.le_refl _) _ _ _ _ _ _ _ _ _ _ _ _))
        simp [results, Tryz.results23, go_sem, p0, p1, p2, p3, p4, p5, p6, p7, p8, p9, p10, p11]
end Go.Proofs.YtognlgklepgemaaGreat
