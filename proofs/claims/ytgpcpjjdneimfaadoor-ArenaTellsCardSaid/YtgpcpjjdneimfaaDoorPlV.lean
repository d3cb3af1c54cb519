/- ArenaPlays: two boxes that are made while calls are made. -/
import Derived.Test.YtgpcpjjdneimfaaDoorPlT
namespace Go.Proofs.YtgpcpjjdneimfaaDoor
open Go.ChangeShapes Go.WideShapes Go.ChangeAt Go.RowKit

section
variable {Z X X0 X1 X2 : World} {T : TypeId} {cs : Array Value} {b K : Nat}
theorem Blk.eq {w : World} {g : Nat} {t : TypeId} {c c' : Array Value} (h : Blk w g t c) (e : c = c') : Blk w g t c' := e ▸ h
theorem Blk.al {w : World} {g : Nat} {t : TypeId} {c : Array Value} (h : Blk w g t c) (o : Obj) : Blk (w.alloc o) g t c := h.below ((Below.refl _ _).alloc (Nat.le_refl _) o) h.lt
theorem Nb.blk {V : World} (h : Nb K V X2 b T cs) : Blk X2 b T cs := h.1
theorem Nb.lt {V : World} (h : Nb K V X2 b T cs) : b < V.heap.size := h.2.1
theorem Nb.ge {V : World} (h : Nb K V X2 b T cs) : K ≤ b := h.2.2
theorem Nb.at_ {V : World} (h : Blk V b T cs) (hK : K ≤ b) (bb : Below V.heap.size V X2) : Nb K V X2 b T cs := ⟨h.below bb h.lt, h.lt, hK⟩
theorem Nb.newD (hK : K ≤ X.heap.size) (bb : Below (X.alloc (.cells cs T)).drew.heap.size (X.alloc (.cells cs T)).drew X2) : Nb K (X.alloc (.cells cs T)).drew X2 X.heap.size T cs := Nb.at_ (V := (X.alloc (.cells cs T)).drew) (Blk.new X _ _) hK bb
theorem Nb.newA {o : Obj} (hK : K ≤ X.heap.size) (bb : Below ((X.alloc (.cells cs T)).alloc o).heap.size ((X.alloc (.cells cs T)).alloc o) X2) : Nb K ((X.alloc (.cells cs T)).alloc o) X2 X.heap.size T cs := Nb.at_ ((Blk.new X _ _).al o) hK bb
theorem Nb.newAD {o : Obj} (hK : K ≤ X.heap.size) (bb : Below ((X.alloc (.cells cs T)).alloc o).drew.heap.size ((X.alloc (.cells cs T)).alloc o).drew X2) : Nb K ((X.alloc (.cells cs T)).alloc o).drew X2 X.heap.size T cs := Nb.at_ (V := ((X.alloc (.cells cs T)).alloc o).drew) ((Blk.new X _ _).al o) hK bb
theorem blk_new1 (X : World) (o : Obj) (T : TypeId) (cs : Array Value) : Blk ((X.alloc o).alloc (.cells cs T)) (X.heap.size + 1) T cs := by
  have h := Blk.new (X.alloc o) T cs
  rwa [show (X.alloc o).heap.size = X.heap.size + 1 by simp] at h
theorem Nb.newB {o : Obj} (hK : K ≤ X.heap.size) (bb : Below ((X.alloc o).alloc (.cells cs T)).heap.size ((X.alloc o).alloc (.cells cs T)) X2) : Nb K ((X.alloc o).alloc (.cells cs T)) X2 (X.heap.size + 1) T cs := Nb.at_ (blk_new1 X o T cs) (by omega) bb
theorem Nb.newBD {o : Obj} (hK : K ≤ X.heap.size) (bb : Below ((X.alloc o).alloc (.cells cs T)).drew.heap.size ((X.alloc o).alloc (.cells cs T)).drew X2) : Nb K ((X.alloc o).alloc (.cells cs T)).drew X2 (X.heap.size + 1) T cs := Nb.at_ (V := ((X.alloc o).alloc (.cells cs T)).drew) (blk_new1 X o T cs) (by omega) bb
end
theorem cell_new0 (X : World) (o : Obj) (T : TypeId) (cs : Array Value) (i : Nat) : ((X.alloc (.cells cs T)).alloc o).cell? ⟨X.heap.size, i, none⟩ = cs[i]? := ((Blk.new X T cs).al o).cell i
theorem froz_new0 (X : World) (o : Obj) (T : TypeId) (cs : Array Value) (i : Nat) : ((X.alloc (.cells cs T)).alloc o).frozen? ⟨X.heap.size, i, none⟩ = false := ((Blk.new X T cs).al o).frozen i
theorem cell_new1 (X : World) (o : Obj) (T : TypeId) (cs : Array Value) (i : Nat) : ((X.alloc o).alloc (.cells cs T)).cell? ⟨X.heap.size + 1, i, none⟩ = cs[i]? := (blk_new1 X o T cs).cell i
theorem froz_new1 (X : World) (o : Obj) (T : TypeId) (cs : Array Value) (i : Nat) : ((X.alloc o).alloc (.cells cs T)).frozen? ⟨X.heap.size + 1, i, none⟩ = false := (blk_new1 X o T cs).frozen i
theorem RefP.ends {Z X' X2 wx : World} {R : Nat → Prop} {A2 : Option Addr} {n2 c2 b1 b2 lo hi : Nat} {M : List Ar.Pl} (hlo : Z.heap.size ≤ lo) (hX : Z.heap.size ≤ X'.heap.size) (E : Below Z.heap.size Z X2) (hP : PlIn X2 (fun x => (R x ∨ (lo ≤ x ∧ x < hi)) ∨ X'.heap.size ≤ x) A2 n2 M) (hR : ∀ x, R x → x < Z.heap.size) (hT : Turns (fun x => x = b1 ∨ x = b2) X2 wx) (g1 : Z.heap.size ≤ b1) (g2 : Z.heap.size ≤ b2) (d1 : ((b1 < lo ∨ hi ≤ b1) ∧ b1 < X'.heap.size) ∨ X2.heap.size ≤ b1) (d2 : ((b2 < lo ∨ hi ≤ b2) ∧ b2 < X'.heap.size) ∨ X2.heap.size ≤ b2) (hb1 : Blk wx b1 29 #[.slice A2 n2 c2]) {T2 : TypeId} {cs2 : Array Value} (hb2 : Blk wx b2 T2 cs2) : RefP Z R A2 n2 c2 M b1 wx ∧ Blk wx b2 T2 cs2 := by
  refine ⟨⟨g1, hb1, E.trans (hT.below E.size fun b hb => by rcases hb with rfl | rfl <;> assumption), ?_⟩, hb2⟩
  refine ((hP.mono (G := fun x => ((R x ∨ (lo ≤ x ∧ x < hi)) ∨ X'.heap.size ≤ x) ∧ x < X2.heap.size) (fun x h1 h2 => ⟨h2, h1⟩)).turn hT ?_).mono ?_
  · rintro x ⟨h1, h2⟩ h3
    have key : ∀ b, x = b → Z.heap.size ≤ b → (((b < lo ∨ hi ≤ b) ∧ b < X'.heap.size) ∨ X2.heap.size ≤ b) → False := by
      rintro b rfl hg hd
      rcases h1 with (h1 | h1) | h1
      · have := hR _ h1
        omega
      · rcases hd with ⟨hd | hd, -⟩ | hd <;> omega
      · rcases hd with ⟨-, hd⟩ | hd <;> omega
    rcases h3 with h3 | h3
    · exact key _ h3 g1 d1
    · exact key _ h3 g2 d2
  · rintro x - ⟨(h1 | h1) | h1, -⟩
    · exact .inl h1
    · exact .inr (by omega)
    · exact .inr (by omega)
end Go.Proofs.YtgpcpjjdneimfaaDoor
