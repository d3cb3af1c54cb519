/- Layer 8, the program: parts, taken one behind the other. -/
import Derived.Test.YtognlgklepgemaaRpQ
namespace Go.Proofs.Ytognlgklepgemaa
open Go.ChangeShapes Go.WideShapes Go.ChangeAt Go.RowKit

namespace Rp
/-- What is left to a reader, and whether it has failed. -/
abbrev St := List Nat × Bool
def nx (s : St) (k : Nat) : St := (Pk.left s.2 s.1 k, Pk.fails s.2 s.1 k)
def vl (s : St) (k : Nat) : Nat := Pk.num (Pk.taken s.2 s.1 k)
def tx (s : St) : St := (Pk.tleft s.2 s.1, Pk.tfails s.2 s.1)
def tt (s : St) : ByteArray := textOf (Pk.ttaken s.2 s.1)
def tPane (s : St) : Pn × St := (⟨tt s, sg (vl (tx s) 8), sg (vl (nx (tx s) 8) 8)⟩, nx (nx (tx s) 8) 8)
def tAgg (s : St) : Ag.A × St := (⟨sg (vl s 8), sg (vl (nx s 8) 8), sg (vl (nx (nx s 8) 8) 8), sg (vl (nx (nx (nx s 8) 8) 8) 8)⟩, nx (nx (nx (nx s 8) 8) 8) 8)
def tRow (s : St) : Rw × St := (⟨(tPane s).1, (tAgg (tPane s).2).1⟩, (tAgg (tPane s).2).2)
def tList {α : Type} (f : St → α × St) : Nat → St → List α × St
  | 0, s => ([], s)
  | n + 1, s => ((f s).1 :: (tList f n (f s).2).1, (tList f n (f s).2).2)
theorem tList_snoc {α : Type} (f : St → α × St) (n : Nat) (s : St) : tList f (n + 1) s = ((tList f n s).1 ++ [(f (tList f n s).2).1], (f (tList f n s).2).2) := by
  induction n generalizing s with
  | zero => rfl
  | succ n ih =>
    have h := ih (f s).2
    show ((f s).1 :: (tList f (n + 1) (f s).2).1, (tList f (n + 1) (f s).2).2) = _
    rw [h]
    rfl
theorem tList_len {α : Type} (f : St → α × St) (n : Nat) (s : St) : (tList f n s).1.length = n := by
  induction n generalizing s with
  | zero => rfl
  | succ n ih => show ((f s).1 :: (tList f n (f s).2).1).length = _; rw [List.length_cons, ih]
end Rp
/-- All blocks but readers stay. -/
def StayR (w w' : World) : Prop := (∀ h t cs, t ≠ 136 → Blk w h t cs → Blk w' h t cs) ∧ w.heap.size ≤ w'.heap.size
theorem StayR.trans {a b c : World} (h : StayR a b) (k : StayR b c) : StayR a c := ⟨fun g t cs ht hb => k.1 g t cs ht (h.1 g t cs ht hb), Nat.le_trans h.2 k.2⟩
theorem StayR.below {w w' : World} (h : Below w.heap.size w w') : StayR w w' := ⟨fun _ _ _ _ hb => hb.below h hb.lt, h.size⟩
theorem StayR.grown {w w' : World} {g : Nat} {cs : Array Value} (h : w.grownBy w' (some g)) (hg : Blk w g 136 cs) : StayR w w' :=
  ⟨fun k t ds ht hb => (h.block k hb.lt (fun e => blk_ne hb hg ht (by injection e))).trans hb, h.size⟩
theorem StayR.parts {w w' : World} (h : StayR w w') : Parts w w' := fun g cs hb => h.1 g _ cs (by decide) hb
theorem own_stay {w w' : World} {base e s n : Nat} {v : Value} {xs : List Value} (h : w.ownsRow base e s v n xs) (hs : StayR w w') (he : e ≠ 136) : w'.ownsRow base e s v n xs := by
  refine ⟨h.1, ?_⟩
  rcases h.2 with hn | ⟨g, cap, cur, hv, hb, hg, rest⟩
  · exact .inl hn
  · exact .inr ⟨g, cap, cur, hv, hb, hs.1 g e cur he hg, rest⟩
theorem Rd.blk {w : World} {lo g : Nat} {l : List Nat} {f : Bool} (h : Rd w lo g l f) : ∃ cs, Blk w g 136 cs := by
  obtain ⟨A, n, c, hb, _⟩ := h
  exact ⟨_, hb⟩
/-- A taker at T takes of the reader at g, in a call's own memory; s is left to it. -/
def Tk (w0 W : World) (T g : Nat) (s : Rp.St) (odd : Bool) : Prop :=
  Blk W T 107 #[.pointer (some ⟨g, 0, none⟩), .bool odd] ∧ Rd W w0.heap.size g s.1 s.2 ∧ Below w0.heap.size w0 W ∧ w0.heap.size ≤ g ∧ w0.heap.size ≤ T
theorem Tk.below {w0 W W' : World} {T g : Nat} {s : Rp.St} {odd : Bool} (h : Tk w0 W T g s odd) (b : Below W.heap.size W W') : Tk w0 W' T g s odd :=
  ⟨h.1.below b h.1.lt, h.2.1.below b h.2.1.here, below_next h.2.2.1 b, h.2.2.2⟩
theorem Tk.reads {w0 W W' : World} {T g : Nat} {s s' : Rp.St} {odd : Bool} (h : Tk w0 W T g s odd) (hr : Rd W' w0.heap.size g s'.1 s'.2) (hg : W.grownBy W' (some g)) : Tk w0 W' T g s' odd ∧ StayR W W' := by
  obtain ⟨cs, hb⟩ := h.2.1.blk
  have hs := StayR.grown hg hb
  refine ⟨⟨hs.1 _ _ _ (by decide) h.1, hr, ?_, h.2.2.2⟩, hs⟩
  exact h.2.2.1.trans ⟨hg.os, hg.tape, hg.output, hg.size, fun k hk => hg.block k (by have := h.2.2.1.size; omega) (fun e => by injection e with e; have := h.2.2.2.1; omega)⟩
theorem Tk.cell {w0 W : World} {T g : Nat} {s : Rp.St} {odd : Bool} (h : Tk w0 W T g s odd) : W.cell? ⟨T, 0, none⟩ = some (.pointer (some ⟨g, 0, none⟩)) ∧ W.cell? ⟨T, 1, none⟩ = some (.bool odd) ∧ W.frozen? ⟨T, 1, none⟩ = false := ⟨h.1.cell 0, h.1.cell 1, h.1.frozen 1⟩
theorem Rd.kept {w w' : World} {lo g h : Nat} {l : List Nat} {f : Bool} (hr : Rd w lo g l f) (hg : w.grownBy w' (some h)) (hh : g < h ∨ h < lo) (hlg : lo ≤ g) : Rd w' lo g l f := by
  have hlt := hr.here
  obtain ⟨A, n, c, hb, hy, h1, h2, h3⟩ := hr
  have hblk : ∀ k, lo ≤ k → k ≤ g → w'.heap[k]? = w.heap[k]? := fun k hk1 hk2 => hg.block k (by omega) (fun e => by injection e with e; omega)
  exact ⟨A, n, c, (hblk g (by omega) (Nat.le_refl _)).trans hb, hy.keepIn h3 (fun b o hb1 hb2 => World.cell?_of_block (a := ⟨b, o, none⟩) (hblk b hb1 (by omega))), h1, h2, h3⟩
theorem Tk.set {w0 W : World} {T g P i : Nat} {s : Rp.St} {odd : Bool} (h : Tk w0 W T g s odd) (hP : g < P) (hne : P ≠ T) (u : Value) : Tk w0 (W.setCell ⟨P, i, none⟩ u) T g s odd :=
  ⟨h.1.far hne u, h.2.1.kept (grown_set i u) (.inl hP) h.2.2.2.1, h.2.2.1.setCell (p := ⟨P, i, none⟩) (by show w0.heap.size ≤ P; have := h.2.2.2.1; omega) u, h.2.2.2⟩
theorem Tk.here {w0 W : World} {T g : Nat} {s : Rp.St} {odd : Bool} (h : Tk w0 W T g s odd) : g < W.heap.size := h.2.1.here
theorem Tk.top {w0 W : World} {T g : Nat} {s : Rp.St} {odd : Bool} (h : Tk w0 W T g s odd) : T < W.heap.size := h.1.lt
theorem tk_int {w0 W : World} {T g : Nat} {s : Rp.St} {odd : Bool} (h : Tk w0 W T g s odd) : Calls Try.prog 114 #[.pointer (some ⟨g, 0, none⟩)] W fun e W' => e = .returned (.int .i64 (sg (Rp.vl s 8))) ∧ Tk w0 W' T g (Rp.nx s 8) odd ∧ StayR W W' :=
  (int_any _ g s.1 s.2 W h.2.1).mono fun _ _ hp => ⟨hp.1, h.reads (s' := Rp.nx s 8) hp.2.1 hp.2.2⟩
theorem tk_u8 {w0 W : World} {T g : Nat} {s : Rp.St} {odd : Bool} (h : Tk w0 W T g s odd) : Calls Try.prog 54 #[.pointer (some ⟨g, 0, none⟩)] W fun e W' => e = .returned (.int .u8 (((Rp.vl s 1 : Nat) : Int))) ∧ Tk w0 W' T g (Rp.nx s 1) odd ∧ StayR W W' :=
  (u8_any _ g s.1 s.2 W h.2.1).mono fun _ _ hp => ⟨hp.1, h.reads (s' := Rp.nx s 1) hp.2.1 hp.2.2⟩
theorem tk_u16 {w0 W : World} {T g : Nat} {s : Rp.St} {odd : Bool} (h : Tk w0 W T g s odd) : Calls Try.prog 120 #[.pointer (some ⟨g, 0, none⟩)] W fun e W' => e = .returned (.int .u16 (((Rp.vl s 2 : Nat) : Int))) ∧ Tk w0 W' T g (Rp.nx s 2) odd ∧ StayR W W' :=
  (u16_any _ g s.1 s.2 W h.2.1).mono fun _ _ hp => ⟨hp.1, h.reads (s' := Rp.nx s 2) hp.2.1 hp.2.2⟩
theorem tk_u32 {w0 W : World} {T g : Nat} {s : Rp.St} {odd : Bool} (h : Tk w0 W T g s odd) : Calls Try.prog 55 #[.pointer (some ⟨g, 0, none⟩)] W fun e W' => e = .returned (.int .u32 (((Rp.vl s 4 : Nat) : Int))) ∧ Tk w0 W' T g (Rp.nx s 4) odd ∧ StayR W W' :=
  (u32_any _ g s.1 s.2 W h.2.1).mono fun _ _ hp => ⟨hp.1, h.reads (s' := Rp.nx s 4) hp.2.1 hp.2.2⟩
theorem tk_u64 {w0 W : World} {T g : Nat} {s : Rp.St} {odd : Bool} (h : Tk w0 W T g s odd) : Calls Try.prog 121 #[.pointer (some ⟨g, 0, none⟩)] W fun e W' => e = .returned (.int .u64 (((Rp.vl s 8 : Nat) : Int))) ∧ Tk w0 W' T g (Rp.nx s 8) odd ∧ StayR W W' :=
  (u64_any _ g s.1 s.2 W h.2.1).mono fun _ _ hp => ⟨hp.1, h.reads (s' := Rp.nx s 8) hp.2.1 hp.2.2⟩
theorem tk_text {w0 W : World} {T g : Nat} {s : Rp.St} {odd : Bool} (h : Tk w0 W T g s odd) : Calls Try.prog 128 #[.pointer (some ⟨g, 0, none⟩)] W fun e W' => e = .returned (.string (Rp.tt s)) ∧ Tk w0 W' T g (Rp.tx s) odd ∧ StayR W W' :=
  (text_any _ g s.1 s.2 W h.2.1).mono fun _ _ hp => ⟨hp.1, h.reads (s' := Rp.tx s) hp.2.1 hp.2.2⟩
theorem StayR.set {W w2 : World} {P i : Nat} (h : StayR W w2) (hP : W.heap.size ≤ P) (u : Value) : StayR W (w2.setCell ⟨P, i, none⟩ u) := ⟨fun k t cs ht hb => (h.1 k t cs ht hb).far (by have := hb.lt; omega) u, by simpa [World.setCell] using h.2⟩
set_option maxRecDepth 100000 in
set_option maxHeartbeats 2000000 in
theorem take_pane (w0 W : World) (T g : Nat) (s : Rp.St) (odd : Bool) (h : Tk w0 W T g s odd) :
    Calls Try.prog 123 #[.pointer (some ⟨T, 0, none⟩)] W fun e W' => e = .returned (.agg #[.string (Rp.tPane s).1.k, .int .i64 (Rp.tPane s).1.s, .int .i64 (Rp.tPane s).1.e]) ∧ Tk w0 W' T g (Rp.tPane s).2 odd ∧ StayR W W' := by
  have b0 : Below W.heap.size W (W.alloc (.cells #[.string ⟨#[]⟩, .int .i64 0, .int .i64 0] 77)) := (Below.refl _ _).alloc (Nat.le_refl _) _
  have K0 := Blk.new W 77 #[.string ⟨#[]⟩, .int .i64 0, .int .i64 0]
  have H0 := Lib.hid (And.intro (h.below b0) (And.intro (StayR.below b0) K0))
  have hgW := h.here
  have hTW := h.top
  obtain ⟨t0, -⟩ := H0.out.1.cell
  obtain ⟨vk, e1⟩ : ∃ v, Rp.tt s = v := ⟨_, rfl⟩
  obtain ⟨vs, e2⟩ : ∃ v, sg (Rp.vl (Rp.tx s) 8) = v := ⟨_, rfl⟩
  obtain ⟨ve, e3⟩ : ∃ v, sg (Rp.vl (Rp.nx (Rp.tx s) 8) 8) = v := ⟨_, rfl⟩
  have e0 : Rp.tPane s = (⟨vk, vs, ve⟩, Rp.nx (Rp.nx (Rp.tx s) 8) 8) := by
    unfold Rp.tPane
    rw [e1, e2, e3]
  rw [e0]
  have HE := Lib.hid (And.intro e1 (And.intro e2 e3))
  clear h b0 K0 e1 e2 e3 e0
  go_enter Try.func123, Try.ntmps123
  go_wp2_with fail
  clear t0
  refine (tk_text H0.out.1).mono ?_
  rintro e w1 ⟨rfl, k1, s1⟩
  rw [HE.out.1]
  have K1 := s1.1 _ _ _ (by decide) H0.out.2.2
  have b1 : Below w1.heap.size w1 (w1.alloc (.cells #[.string vk, .int .i64 0, .int .i64 0] 77)) := (Below.refl _ _).alloc (Nat.le_refl _) _
  have H1 := Lib.hid (And.intro (k1.below b1) (And.intro ((H0.out.2.1.trans s1).trans (StayR.below b1)) (And.intro (K1.below b1 K1.lt) (Blk.new w1 77 #[.string vk, .int .i64 0, .int .i64 0]))))
  have hz1 : W.heap.size < w1.heap.size := K1.lt
  obtain ⟨t0, -⟩ := H1.out.1.cell
  clear k1 s1 K1 b1
  go_wp2_with fail
  clear t0
  refine (tk_int H1.out.1).mono ?_
  rintro e w2 ⟨rfl, k2, s2⟩
  rw [HE.out.2.1]
  have K2 := s2.1 _ _ _ (by decide) H1.out.2.2.1
  have L2 := s2.1 _ _ _ (by decide) H1.out.2.2.2
  have l1 := L2.cell 1
  have f1 := L2.frozen 1
  have k3 := k2.set (P := w1.heap.size) (i := 1) (by omega) (by omega) (.int .i64 vs)
  have H2 := Lib.hid (And.intro k3 (And.intro ((H1.out.2.1.trans s2).set (P := w1.heap.size) (i := 1) (by omega) (.int .i64 vs)) (And.intro (K2.far (b := w1.heap.size) (o := 1) (by omega) (.int .i64 vs)) (And.intro (L2.set_ 1 (.int .i64 vs)) L2))))
  obtain ⟨t0, -⟩ := k3.cell
  clear k2 k3 s2 K2 L2
  go_wp2_with fail
  clear t0 l1 f1
  refine (tk_int H2.out.1).mono ?_
  rintro e w3 ⟨rfl, k3, s3⟩
  rw [HE.out.2.2]
  have K3 := s3.1 _ _ _ (by decide) H2.out.2.2.1
  have L3 := s3.1 _ _ _ (by decide) H2.out.2.2.2.1
  have LL := L3.set_ 2 (.int .i64 ve)
  have l0 : (w3.setCell ⟨w1.heap.size, 2, none⟩ (.int .i64 ve)).cell? ⟨w1.heap.size, 0, none⟩ = some (.string vk) := LL.cell 0
  have l1 : (w3.setCell ⟨w1.heap.size, 2, none⟩ (.int .i64 ve)).cell? ⟨w1.heap.size, 1, none⟩ = some (.int .i64 vs) := LL.cell 1
  have l2 : (w3.setCell ⟨w1.heap.size, 2, none⟩ (.int .i64 ve)).cell? ⟨w1.heap.size, 2, none⟩ = some (.int .i64 ve) := LL.cell 2
  have f2 := L3.frozen 2
  have l2' : w3.cell? ⟨w1.heap.size, 2, none⟩ = some (.int .i64 0) := L3.cell 2
  have k4 := k3.set (P := w1.heap.size) (i := 2) (by omega) (by omega) (.int .i64 ve)
  have K4 := K3.far (b := w1.heap.size) (o := 2) (by omega) (.int .i64 ve)
  have S4 := (H2.out.2.1.trans s3).set (P := w1.heap.size) (i := 2) (by omega) (.int .i64 ve)
  have p0 := K4.cell 0
  have p1 := K4.cell 1
  have p2 := K4.cell 2
  have q0 := K4.frozen 0
  have q1 := K4.frozen 1
  have q2 := K4.frozen 2
  have H4 := Lib.hid (And.intro (((k4.set (P := W.heap.size) (i := 0) hgW (by omega) (.string vk)).set (P := W.heap.size) (i := 1) hgW (by omega) (.int .i64 vs)).set (P := W.heap.size) (i := 2) hgW (by omega) (.int .i64 ve)) (((S4.set (P := W.heap.size) (i := 0) (Nat.le_refl _) (.string vk)).set (P := W.heap.size) (i := 1) (Nat.le_refl _) (.int .i64 vs)).set (P := W.heap.size) (i := 2) (Nat.le_refl _) (.int .i64 ve)))
  obtain ⟨X, hX⟩ : ∃ X, w3.setCell ⟨w1.heap.size, 2, none⟩ (.int .i64 ve) = X := ⟨_, rfl⟩
  rw [hX] at l0 l1 l2 p0 p1 p2 q0 q1 q2 H4
  clear k3 s3 K3 L3 LL k4 K4 S4
  go_wp2_with fail
  refine bodyPost_ret (v := .agg #[.string vk, .int .i64 vs, .int .i64 ve]) ?_ rfl ⟨rfl, H4.out⟩
  simp [results, Try.results123, go_sem, p0, p1, p2]
end Go.Proofs.Ytognlgklepgemaa
