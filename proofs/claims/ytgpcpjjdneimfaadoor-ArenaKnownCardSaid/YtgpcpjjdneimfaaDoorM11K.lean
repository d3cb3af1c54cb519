/- ArenaPlays: a call that makes. -/
import Derived.Test.YtgpcpjjdneimfaaDoorM11J
namespace Go.Proofs.YtgpcpjjdneimfaaDoor
open Go.ChangeShapes Go.WideShapes Go.ChangeAt Go.RowKit

section
variable {Z X X0 X1 X2 : World} {T : TypeId} {cs : Array Value} {b K : Nat}
theorem Blk.eq {w : World} {g : Nat} {t : TypeId} {c c' : Array Value} (h : Blk w g t c) (e : c = c') : Blk w g t c' := e ▸ h
theorem Blk.al {w : World} {g : Nat} {t : TypeId} {c : Array Value} (h : Blk w g t c) (o : Obj) : Blk (w.alloc o) g t c := h.below ((Below.refl _ _).alloc (Nat.le_refl _) o) h.lt
theorem Nb.blk {V : World} (h : Nb K V X2 b T cs) : Blk X2 b T cs := h.1
theorem Nb.lt {V : World} (h : Nb K V X2 b T cs) : b < V.heap.size := h.2.1
theorem Nb.ge {V : World} (h : Nb K V X2 b T cs) : K ≤ b := h.2.2
theorem Nb.at_ {V : World} (h : Blk V b T cs) (hK : K ≤ b) (bb : Below V.heap.size V X2) : Nb K V X2 b T cs := ⟨h.below bb h.lt, h.lt, hK⟩
theorem Nb.newD (hK : K ≤ X.heap.size) (bb : Below (X.alloc (.cells cs T)).drew.heap.size (X.alloc (.cells cs T)).drew X2) : Nb K (X.alloc (.cells cs T)).drew X2 X.heap.size T cs := Nb.at_ (V := (X.alloc (.cells cs T)).drew) (Blk.new X _ _) hK bb
theorem Nb.newA {o : Obj} (hK : K ≤ X.heap.size) (bb : Below ((X.alloc (.cells cs T)).alloc o).heap.size ((X.alloc (.cells cs T)).alloc o) X2) : Nb K ((X.alloc (.cells cs T)).alloc o) X2 X.heap.size T cs := Nb.at_ ((Blk.new X _ _).al o) hK bb
theorem Nb.newAD {o : Obj} (hK : K ≤ X.heap.size) (bb : Below ((X.alloc (.cells cs T)).alloc o).drew.heap.size ((X.alloc (.cells cs T)).alloc o).drew X2) : Nb K ((X.alloc (.cells cs T)).alloc o).drew X2 X.heap.size T cs := Nb.at_ (V := ((X.alloc (.cells cs T)).alloc o).drew) ((Blk.new X _ _).al o) hK bb
theorem blk_new1 (X : World) (o : Obj) (T : TypeId) (cs : Array Value) : Blk ((X.alloc o).alloc (.cells cs T)) (X.heap.size + 1) T cs := by
  have h := Blk.new (X.alloc o) T cs
  rwa [show (X.alloc o).heap.size = X.heap.size + 1 by simp] at h
theorem Nb.newB {o : Obj} (hK : K ≤ X.heap.size) (bb : Below ((X.alloc o).alloc (.cells cs T)).heap.size ((X.alloc o).alloc (.cells cs T)) X2) : Nb K ((X.alloc o).alloc (.cells cs T)) X2 (X.heap.size + 1) T cs := Nb.at_ (blk_new1 X o T cs) (by omega) bb
theorem Nb.newBD {o : Obj} (hK : K ≤ X.heap.size) (bb : Below ((X.alloc o).alloc (.cells cs T)).drew.heap.size ((X.alloc o).alloc (.cells cs T)).drew X2) : Nb K ((X.alloc o).alloc (.cells cs T)).drew X2 (X.heap.size + 1) T cs := Nb.at_ (V := ((X.alloc o).alloc (.cells cs T)).drew) (blk_new1 X o T cs) (by omega) bb
end
theorem cell_new0 (X : World) (o : Obj) (T : TypeId) (cs : Array Value) (i : Nat) : ((X.alloc (.cells cs T)).alloc o).cell? ⟨X.heap.size, i, none⟩ = cs[i]? := ((Blk.new X T cs).al o).cell i
theorem froz_new0 (X : World) (o : Obj) (T : TypeId) (cs : Array Value) (i : Nat) : ((X.alloc (.cells cs T)).alloc o).frozen? ⟨X.heap.size, i, none⟩ = false := ((Blk.new X T cs).al o).frozen i
theorem cell_new1 (X : World) (o : Obj) (T : TypeId) (cs : Array Value) (i : Nat) : ((X.alloc o).alloc (.cells cs T)).cell? ⟨X.heap.size + 1, i, none⟩ = cs[i]? := (blk_new1 X o T cs).cell i
theorem froz_new1 (X : World) (o : Obj) (T : TypeId) (cs : Array Value) (i : Nat) : ((X.alloc o).alloc (.cells cs T)).frozen? ⟨X.heap.size + 1, i, none⟩ = false := (blk_new1 X o T cs).frozen i
theorem RefP.ends {Z X' X2 wx : World} {R : Nat → Prop} {A2 : Option Addr} {n2 c2 b1 b2 lo hi : Nat} {M : List Ar.Pl} (hlo : Z.heap.size ≤ lo) (hX : Z.heap.size ≤ X'.heap.size) (E : Below Z.heap.size Z X2) (hP : PlIn X2 (fun x => (R x ∨ (lo ≤ x ∧ x < hi)) ∨ X'.heap.size ≤ x) A2 n2 M) (hR : ∀ x, R x → x < Z.heap.size) (hT : Turns (fun x => x = b1 ∨ x = b2) X2 wx) (g1 : Z.heap.size ≤ b1) (g2 : Z.heap.size ≤ b2) (d1 : ((b1 < lo ∨ hi ≤ b1) ∧ b1 < X'.heap.size) ∨ X2.heap.size ≤ b1) (d2 : ((b2 < lo ∨ hi ≤ b2) ∧ b2 < X'.heap.size) ∨ X2.heap.size ≤ b2) (hb1 : Blk wx b1 29 #[.slice A2 n2 c2]) {T2 : TypeId} {cs2 : Array Value} (hb2 : Blk wx b2 T2 cs2) : RefP Z R A2 n2 c2 M b1 wx ∧ Blk wx b2 T2 cs2 := by
  refine ⟨⟨g1, hb1, E.trans (hT.below E.size fun b hb => by rcases hb with rfl | rfl <;> assumption), ?_⟩, hb2⟩
  refine ((hP.mono (G := fun x => ((R x ∨ (lo ≤ x ∧ x < hi)) ∨ X'.heap.size ≤ x) ∧ x < X2.heap.size) (fun x h1 h2 => ⟨h2, h1⟩)).turn hT ?_).mono ?_
  · rintro x ⟨h1, h2⟩ h3
    have key : ∀ b, x = b → Z.heap.size ≤ b → (((b < lo ∨ hi ≤ b) ∧ b < X'.heap.size) ∨ X2.heap.size ≤ b) → False := by
      rintro b rfl hg hd
      rcases h1 with (h1 | h1) | h1
      · have := hR _ h1
        omega
      · rcases hd with ⟨hd | hd, -⟩ | hd <;> omega
      · rcases hd with ⟨-, hd⟩ | hd <;> omega
    rcases h3 with h3 | h3
    · exact key _ h3 g1 d1
    · exact key _ h3 g2 d2
  · rintro x - ⟨(h1 | h1) | h1, -⟩
    · exact .inl h1
    · exact .inr (by omega)
    · exact .inr (by omega)
end Go.Proofs.YtgpcpjjdneimfaaDoor

namespace Go.Proofs.YtgpcpjjdneimfaaDoor
open Go.ChangeShapes Go.WideShapes Go.ChangeAt Go.RowKit

set_option maxRecDepth 100000 in
set_option maxHeartbeats 4000000 in
theorem does_make (w0 w : World) (g : Nat) (L : List Ar.Pl) (A : Option Addr) (n c : Nat) (P R : Nat → Prop) (k : Nat) (h : Two w0 w g L L A n P R) (hf : Few L k) (hk : k ≤ 1000) (x : Int) (v : NdV) (d : Ar.Nd) (Al : Option Addr) (m cl : Nat) (l : List (Int × Int)) (hv : NdIn w (fun b => b < w0.heap.size) v d) (hl : Cells w (fun b => b < w0.heap.size) Al m 2 (hanL l)) (j : Int) (hj2 : (j == 2) = false) (hj3 : (j == 3) = false) (hx : ∀ w, Calls Tryd.prog 22 #[.int .i64 x, .int .i64 4] w fun e w' => e = .returned (.int .i64 j) ∧ w = w') :
    Calls Tryd.prog 11 #[.pointer (some ⟨g, 0, none⟩), .agg #[.slice A n c], .agg #[.int .i64 x, .bool d.leaf, .slice v.A1 v.n1 v.c1, .slice v.A2 v.n2 v.c2, .slice v.A3 v.n3 v.c3, .slice Al m cl]] w (DoesP w0 w g P R (k + 1)) := by
  obtain ⟨W, a, q, s, hW, ha, hq, hs, hB, hD, hWs⟩ := doAt_start w0 w A n c x v d Al m cl l hv hl
  have HK := Lib.hid (And.intro hW (And.intro ha (And.intro hq (And.intro hs (And.intro hB hWs)))))
  have hT := h.below hB
  have q1 := hD.act.cell 1
  have q2 := hD.act.cell 2
  have q3 := hD.act.cell 3
  have q4 := hD.act.cell 4
  simp only [List.getElem?_toArray, List.getElem?_cons_zero, List.getElem?_cons_succ] at q1 q2 q3 q4
  have HO := Lib.hid (own_any W _ v d hD.nd)
  have HM := Lib.hid (And.intro hD (And.intro hT (And.intro hf h)))
  have HX := Lib.hid hx
  clear hx hW ha hq hs hB hD hT hv hl h hf hWs
  go_enter Tryd.func11, Tryd.ntmps11
  go_upto_region 1 with fail
  rw [HK.out.1, HK.out.2.2.2.1, HK.out.2.2.1, HK.out.2.1]
  go_wp2_with fail
  refine HO.out.mono ?_
  clear q1 q2 q3 q4
  rintro e X ⟨v1, rfl, hN1, bX, hWr⟩
  simp only [NdV.val]
  obtain ⟨nb, hnb⟩ : ∃ nb, X.heap.size = nb := ⟨_, rfl⟩
  obtain ⟨Y, hY⟩ : ∃ Y, X.alloc (.cells #[.bool d.leaf, .slice v1.A1 v1.n1 v1.c1, .slice v1.A2 v1.n2 v1.c2, .slice v1.A3 v1.n3 v1.c3] 36) = Y := ⟨_, rfl⟩
  have bXY : Below X.heap.size X Y := hY ▸ (Below.refl _ _).alloc (Nat.le_refl _) _
  have hbox1 : Blk Y nb 36 #[.bool d.leaf, .slice v1.A1 v1.n1 v1.c1, .slice v1.A2 v1.n2 v1.c2, .slice v1.A3 v1.n3 v1.c3] := by
    rw [← hY, ← hnb]
    exact Blk.new _ _ _
  have bY := below_next bX bXY
  have hD := HM.out.1.below bY
  have q0 := hD.act.cell 0
  simp only [List.getElem?_toArray, List.getElem?_cons_zero] at q0
  have hT := HM.out.2.1.below bY
  have hN := hN1.below bXY
  have hNf : NdIn Y (fun b => W.heap.size ≤ b ∧ b < nb) v1 d := (hN1.mono (fun b hb h => ⟨h, hnb ▸ hb⟩)).below bXY
  have hWrY : Wr Y W.heap.size v1 := ⟨hWr.a1.below bXY, hWr.a2.below bXY, hWr.a3.below bXY⟩
  have hnbW : W.heap.size ≤ nb := hnb ▸ bX.size
  have HY := Lib.hid (And.intro hY (And.intro bY (And.intro hD (And.intro hT (And.intro hNf (And.intro hWrY (And.intro hbox1 (And.intro hnb hnbW))))))))
  clear hbox1 hnbW hY bXY bY hD hT hN1 hWr bX hN hNf hWrY
  go_upto_region 2 with fail
  change Code.wp _ _ _ _ (X.alloc (.cells #[.bool d.leaf, .slice v1.A1 v1.n1 v1.c1, .slice v1.A2 v1.n2 v1.c2, .slice v1.A3 v1.n3 v1.c3] 36))
  rw [HY.out.1]
  go_wp2_with fail
  refine (HX.out _).mono ?_
  rintro e Y1 ⟨rfl, rfl⟩
  have HM2 : Hid (Calls Tryd.prog 24 #[.pointer (some ⟨g, 0, none⟩), .agg #[.bool d.leaf, .slice v1.A1 v1.n1 v1.c1, .slice v1.A2 v1.n2 v1.c2, .slice v1.A3 v1.n3 v1.c3]] Y (MakeP Y P g L d)) := Lib.hid (arMake_any Y P _ g L HY.out.2.2.2.1.ar v1 d HY.out.2.2.2.2.1 (fun b hb hp => by have h1 := HM.out.2.2.2.plt b hp; have h2 := HK.out.2.2.2.2.2; omega) ⟨by have := HM.out.2.2.1.len; omega, fun i p hp => by have := HM.out.2.2.1.turn i p hp; omega⟩ HY.out.2.2.2.1.vars)
  have x0 := HY.out.2.2.2.2.2.2.1.cell 0
  have x1 := HY.out.2.2.2.2.2.2.1.cell 1
  have x2 := HY.out.2.2.2.2.2.2.1.cell 2
  have x3 := HY.out.2.2.2.2.2.2.1.cell 3
  simp only [List.getElem?_toArray, List.getElem?_cons_zero, List.getElem?_cons_succ] at x0 x1 x2 x3
  clear q0 hnb HO HX
  go_wp2_with fail
  refine HM2.out.mono ?_
  clear x0 x1 x2 x3 HM2
  rintro e Z1 hZ
  obtain ⟨rfl, hT1, hTZ⟩ := HY.out.2.2.2.1.made hZ
  clear hZ
  obtain ⟨hb, hhb⟩ : ∃ hb, Z1.heap.size = hb := ⟨_, rfl⟩
  obtain ⟨Z, hZd⟩ : ∃ Z, Z1.alloc (.cells #[.int .i64 (Ar.lo L : Int), .int .i64 (Ar.next L : Int)] 42) = Z := ⟨_, rfl⟩
  have bZ : Below Z1.heap.size Z1 Z := hZd ▸ (Below.refl _ _).alloc (Nat.le_refl _) _
  have hbk : Blk Z hb 42 #[.int .i64 (Ar.lo L : Int), .int .i64 (Ar.next L : Int)] := by
    rw [← hZd, ← hhb]
    exact Blk.new _ _ _
  have hT1 := hT1.below bZ
  have hTY : Turns P Y Z := hTZ.trans (Turns.of_below bZ)
  have hP1 : ∀ b, grow P Y Z1 b → P b ∨ Y.heap.size ≤ b := fun b hb => hb.elim .inl (fun e => .inr e.1)
  have hP2 : ∀ b, grow P Y Z1 b → b < Z1.heap.size := fun b hb => hb.elim (fun e => by have h1 := HM.out.2.2.2.plt b e; have h2 := HK.out.2.2.2.2.2; have h3 := HY.out.2.2.2.2.2.2.1.lt; have h4 := HY.out.2.2.2.2.2.2.2.2; have h5 := hTZ.size; omega) (fun e => e.2)
  have hPlt := HM.out.2.2.2.plt
  have hPge := HM.out.2.2.2.pge
  have hRlt := HM.out.2.2.2.rlt
  have hw0 := HM.out.2.2.2.bel.size
  have nWnb := HY.out.2.2.2.2.2.2.2.2
  have nY : Y.heap.size = nb + 1 := by
    rw [← HY.out.1, ← HY.out.2.2.2.2.2.2.2.1]
    simp
  have nZ : Y.heap.size ≤ hb := hhb ▸ hTZ.size
  have ea := HK.out.2.1
  have eq := HK.out.2.2.1
  have es := HK.out.2.2.2.1
  have eW := HK.out.2.2.2.2.2
  have hDZ := HY.out.2.2.1.turn hTY (fun b hb => by have h1 := hPlt b hb; have h2 := hPge b hb; exact ⟨h2, by omega, by omega, by omega⟩)
  have hNZ := HY.out.2.2.2.2.1.turn hTY (fun b hb hp => by have := hPlt b hp; omega)
  have hWZ : Wr Z W.heap.size v1 := ⟨HY.out.2.2.2.2.2.1.a1.turn hTY (fun b hb hp => by have := hPlt b hp; omega), HY.out.2.2.2.2.2.1.a2.turn hTY (fun b hb hp => by have := hPlt b hp; omega), HY.out.2.2.2.2.2.1.a3.turn hTY (fun b hb hp => by have := hPlt b hp; omega)⟩
  have hnbZ := hTY.blk HY.out.2.2.2.2.2.2.1 (fun e => by have := hPlt _ e; omega)
  have x0 := hnbZ.cell 0
  have x1 := hnbZ.cell 1
  have x2 := hnbZ.cell 2
  have x3 := hnbZ.cell 3
  simp only [List.getElem?_toArray, List.getElem?_cons_zero, List.getElem?_cons_succ] at x0 x1 x2 x3
  have HS := Lib.hid (spoil_any Z _ W.heap.size v1 d d.leaf hNZ hWZ)
  have HG : Hid (∀ Z2, Turns (fun b => W.heap.size ≤ b ∧ b < nb) Z Z2 → Two w0 Z2 g (Ar.make L d) L A n (grow P Y Z1) R ∧ DoAt w0 Z2 a q s A n c x v d Al m cl l ∧ Blk Z2 hb 42 #[.int .i64 (Ar.lo L : Int), .int .i64 (Ar.next L : Int)]) := Lib.hid fun Z2 ht => ⟨hT1.off ht (fun b hb => ⟨fun e => (hP1 b e).elim (fun h1 => by have := hPlt b h1; omega) (fun h1 => by omega), fun e => by have := hRlt b e; omega, by omega⟩), hDZ.turn ht (fun b hb => ⟨by omega, by omega, by omega, by omega⟩), ht.blk hbk (by omega)⟩
  have HTw := Lib.hid ((Turns.of_below (below_next HK.out.2.2.2.2.1 HY.out.2.1)).trans hTY : Turns P w Z)
  have HPl := Lib.hid (And.intro hP1 (And.intro hPlt (And.intro hRlt (And.intro hw0 (And.intro nY (And.intro nWnb (And.intro es (And.intro eW nZ))))))))
  have HZ := Lib.hid (And.intro hZd hhb)
  clear hTY hP1 hP2 hPlt hPge hRlt hw0 nWnb nY nZ ea eq es eW hDZ hNZ hWZ hnbZ hT1 hbk bZ hTZ hZd hhb
  go_upto_region 13 with fail
  change Code.wp _ _ _ _ (Z1.alloc (.cells #[.int .i64 (Ar.lo L : Int), .int .i64 (Ar.next L : Int)] 42))
  rw [HZ.out.1, HZ.out.2]
  go_wp2_with fail
  refine HS.out.mono ?_
  clear x0 x1 x2 x3
  rintro e Z2 ⟨rfl, hSp⟩
  have G2 := Lib.hid (HG.out Z2 hSp)
  have HT2 : Hid (Turns P w Z2) := Lib.hid (HTw.out.then hSp (fun y hy e => by have h1 := HK.out.2.2.2.2.1.size; omega))
  clear hSp HG HS HZ
  go_upto_region 14 with fail
  go_cut [16, 17] (fun p p' wx => ∃ (b1 b2 : Nat) (A2 : Option Addr) (n2 c2 : Nat), p = .pointer (some ⟨b1, 0, none⟩) ∧ p' = .pointer (some ⟨b2, 0, none⟩) ∧ RefP Z2 R A2 n2 c2 (Ar.make L d) b1 wx ∧ Blk wx b2 51 #[.int .i64 (Ar.lo L : Int), .int .i64 (Ar.next L : Int)])
  case first =>
    have hRZ : ∀ x, R x → x < Z2.heap.size := fun x hx => G2.out.1.rlt x hx
    have PA : Hid (∀ X', Below Z2.heap.size Z2 X' → Below Z2.heap.size Z2 X' ∧ X'.cell? ⟨a, 0, none⟩ = some (.slice A n c) ∧ X'.cell? ⟨q, 1, none⟩ = some (.bool d.leaf) ∧ X'.cell? ⟨q, 2, none⟩ = some (.slice v.A1 v.n1 v.c1) ∧ X'.cell? ⟨q, 3, none⟩ = some (.slice v.A2 v.n2 v.c2) ∧ X'.cell? ⟨q, 4, none⟩ = some (.slice v.A3 v.n3 v.c3)) := Lib.hid fun X' hX => by
      have h1 := G2.out.2.1.below hX
      exact ⟨hX, h1.box.cell 0, h1.act.cell 1, h1.act.cell 2, h1.act.cell 3, h1.act.cell 4⟩
    have PB : Hid (∀ X', (Below Z2.heap.size Z2 X' ∧ X'.cell? ⟨a, 0, none⟩ = some (.slice A n c) ∧ X'.cell? ⟨q, 1, none⟩ = some (.bool d.leaf) ∧ X'.cell? ⟨q, 2, none⟩ = some (.slice v.A1 v.n1 v.c1) ∧ X'.cell? ⟨q, 3, none⟩ = some (.slice v.A2 v.n2 v.c2) ∧ X'.cell? ⟨q, 4, none⟩ = some (.slice v.A3 v.n3 v.c3)) → Below Z2.heap.size Z2 X') := Lib.hid fun X' h => h.1
    have E : Hid (Below Z2.heap.size Z2 Z2) := Lib.hid (Below.refl _ _)
    have E0 : Hid (Below Z2.heap.size Z2 Z2.drew) := Lib.hid (Below.refl _ _).drew
    have ED : Hid (∀ o, Below Z2.heap.size Z2 (Z2.alloc o).drew) := Lib.hid fun o => ((Below.refl _ _).alloc (Nat.le_refl _) _).drew
    have EDD : Hid (∀ o o', Below Z2.heap.size Z2 ((Z2.alloc o).alloc o').drew) := Lib.hid fun o o' => (((Below.refl _ _).alloc (Nat.le_refl _) _).alloc (by simp) _).drew
    have EA : Hid (∀ X' o, Below Z2.heap.size Z2 X' → Below Z2.heap.size Z2 (X'.alloc o)) := Lib.hid fun X' o h => h.alloc h.size _
    have HN : Hid (∀ X', (Below Z2.heap.size Z2 X' ∧ X'.cell? ⟨a, 0, none⟩ = some (.slice A n c) ∧ X'.cell? ⟨q, 1, none⟩ = some (.bool d.leaf) ∧ X'.cell? ⟨q, 2, none⟩ = some (.slice v.A1 v.n1 v.c1) ∧ X'.cell? ⟨q, 3, none⟩ = some (.slice v.A2 v.n2 v.c2) ∧ X'.cell? ⟨q, 4, none⟩ = some (.slice v.A3 v.n3 v.c3)) → Calls Tryd.prog 17 #[.agg #[.bool d.leaf, .slice v.A1 v.n1 v.c1, .slice v.A2 v.n2 v.c2, .slice v.A3 v.n3 v.c3]] X' (NdNew X' d)) := Lib.hid fun X' h1 => node_any X' _ v d (G2.out.2.1.nd.below h1.1)
    have HP : Hid (∀ X1 X' v2 lo, NdIn X1 (fun x => lo ≤ x ∧ x < X1.heap.size) v2 d → (Below Z2.heap.size Z2 X' ∧ X'.cell? ⟨a, 0, none⟩ = some (.slice A n c) ∧ X'.cell? ⟨q, 1, none⟩ = some (.bool d.leaf) ∧ X'.cell? ⟨q, 2, none⟩ = some (.slice v.A1 v.n1 v.c1) ∧ X'.cell? ⟨q, 3, none⟩ = some (.slice v.A2 v.n2 v.c2) ∧ X'.cell? ⟨q, 4, none⟩ = some (.slice v.A3 v.n3 v.c3)) → Below X1.heap.size X1 X' → Calls Tryd.prog 33 #[.agg #[.slice A n c], .agg #[.bool d.leaf, .slice v2.A1 v2.n1 v2.c1, .slice v2.A2 v2.n2 v2.c2, .slice v2.A3 v2.n3 v2.c3]] X' (RMakeP X' (fun x => R x ∨ (lo ≤ x ∧ x < X1.heap.size)) L d)) := Lib.hid fun X1 X' v2 lo h2 h1 hb => refMake_any X' _ A n c L ((G2.out.1.pl.below h1.1).mono (fun _ _ e => .inl e)) ⟨by have := HM.out.2.2.1.len; omega, fun i p hp => by have := HM.out.2.2.1.turn i p hp; omega⟩ v2 d ((h2.below hb).mono (fun _ _ e => .inr e))
    have c1 : ∀ X o, ((World.alloc X (.cells #[.slice none 0 0] 29)).alloc o).cell? ⟨X.heap.size, 0, none⟩ = some (.slice none 0 0) := fun X o => cell_new0 X o _ _ 0
    have c2 : ∀ X o, ((World.alloc X (.cells #[.int .i64 0, .int .i64 0] 51)).alloc o).cell? ⟨X.heap.size, 0, none⟩ = some (.int .i64 0) := fun X o => cell_new0 X o _ _ 0
    have c3 : ∀ X o, ((World.alloc X (.cells #[.int .i64 0, .int .i64 0] 51)).alloc o).cell? ⟨X.heap.size, 1, none⟩ = some (.int .i64 0) := fun X o => cell_new0 X o _ _ 1
    have c4 : ∀ X o, ((World.alloc X o).alloc (.cells #[.slice none 0 0] 29)).cell? ⟨X.heap.size + 1, 0, none⟩ = some (.slice none 0 0) := fun X o => cell_new1 X o _ _ 0
    have c5 : ∀ X o, ((World.alloc X o).alloc (.cells #[.int .i64 0, .int .i64 0] 51)).cell? ⟨X.heap.size + 1, 0, none⟩ = some (.int .i64 0) := fun X o => cell_new1 X o _ _ 0
    have c6 : ∀ X o, ((World.alloc X o).alloc (.cells #[.int .i64 0, .int .i64 0] 51)).cell? ⟨X.heap.size + 1, 1, none⟩ = some (.int .i64 0) := fun X o => cell_new1 X o _ _ 1
    have f1 : ∀ X o T cs i, ((World.alloc X (.cells cs T)).alloc o).frozen? ⟨X.heap.size, i, none⟩ = false := fun X o T cs i => froz_new0 X o T cs i
    have f2 : ∀ X o T cs i, ((World.alloc X o).alloc (.cells cs T)).frozen? ⟨X.heap.size + 1, i, none⟩ = false := fun X o T cs i => froz_new1 X o T cs i
    go_region_held3 (fun X' => Below Z2.heap.size Z2 X' ∧ X'.cell? ⟨a, 0, none⟩ = some (.slice A n c) ∧ X'.cell? ⟨q, 1, none⟩ = some (.bool d.leaf) ∧ X'.cell? ⟨q, 2, none⟩ = some (.slice v.A1 v.n1 v.c1) ∧ X'.cell? ⟨q, 3, none⟩ = some (.slice v.A2 v.n2 v.c2) ∧ X'.cell? ⟨q, 4, none⟩ = some (.slice v.A3 v.n3 v.c3)) (first | with_reducible exact PA.out _ E.out | with_reducible exact PA.out _ E0.out | with_reducible exact PA.out _ (ED.out _) | with_reducible exact PA.out _ (EDD.out _ _) | with_reducible exact PA.out _ (EA.out _ _ E.out) | with_reducible exact PA.out _ (EA.out _ _ (EA.out _ _ E.out)) | (refine PA.out _ ?_; repeat (first | with_reducible exact E.out | with_reducible refine EA.out _ _ ?_ | refine Below.setCell (p := ⟨_, _, none⟩) ?_ N1.out.2.2 _ | refine Below.setCell (p := ⟨_, _, none⟩) ?_ N2.out.2.2 _ | refine Below.setCell (p := ⟨_, _, none⟩) ?_ (show Z2.heap.size ≤ _ from by have := E.out.size; (first | omega | (simp; omega))) _)) | fail) (first
      | (go_at_call 17; (with_reducible refine (HN.out _ (by assumption)).mono ?_); rintro e X1 ⟨v2, rfl, hv2, bb⟩; simp only [NdV.val]; (try first | (have N1 := Lib.hid (Nb.newD (T := 29) (cs := #[.slice none 0 0]) E.out.size bb)) | (have N1 := Lib.hid (Nb.new (T := 29) (cs := #[.slice none 0 0]) E.out.size bb)) | (have N1 := Lib.hid (Nb.newAD (T := 29) (cs := #[.slice none 0 0]) E.out.size bb)) | (have N1 := Lib.hid (Nb.newA (T := 29) (cs := #[.slice none 0 0]) E.out.size bb)) | (have N1 := Lib.hid (Nb.newBD (T := 29) (cs := #[.slice none 0 0]) E.out.size bb)) | (have N1 := Lib.hid (Nb.newB (T := 29) (cs := #[.slice none 0 0]) E.out.size bb)) | (have N1 := Lib.hid (Nb.next N1.out bb)) | (have N1 := Lib.hid (Nb.nextA N1.out bb))); (try first | (have N2 := Lib.hid (Nb.newD (T := 51) (cs := #[.int .i64 0, .int .i64 0]) E.out.size bb)) | (have N2 := Lib.hid (Nb.new (T := 51) (cs := #[.int .i64 0, .int .i64 0]) E.out.size bb)) | (have N2 := Lib.hid (Nb.newAD (T := 51) (cs := #[.int .i64 0, .int .i64 0]) E.out.size bb)) | (have N2 := Lib.hid (Nb.newA (T := 51) (cs := #[.int .i64 0, .int .i64 0]) E.out.size bb)) | (have N2 := Lib.hid (Nb.newBD (T := 51) (cs := #[.int .i64 0, .int .i64 0]) E.out.size bb)) | (have N2 := Lib.hid (Nb.newB (T := 51) (cs := #[.int .i64 0, .int .i64 0]) E.out.size bb)) | (have N2 := Lib.hid (Nb.next N2.out bb)) | (have N2 := Lib.hid (Nb.nextA N2.out bb))); have E := Lib.hid (below_next (PB.out _ (by assumption)) bb); (try have L1 := Lib.hid N1.out.2.1); (try have L2 := Lib.hid N2.out.2.1); have NV := Lib.hid (NdIn.mono hv2 (fun _ hx e => And.intro e hx)); have NL := Lib.hid (Below.size (PB.out _ (by assumption))); have NS := Lib.hid bb.size; clear bb hv2)
      | (go_at_call 33; (with_reducible refine (HP.out _ _ _ _ NV.out (by assumption) (by first | exact Below.refl _ _ | exact (Below.refl _ _).alloc (Nat.le_refl _) _ | exact ((Below.refl _ _).alloc (Nat.le_refl _) _).alloc (by simp) _)).mono ?_); rintro e X2 ⟨A2, n2, c2, rfl, hP2, bb⟩; have O2 := Lib.hid (And.intro (Below.size (PB.out _ (by assumption))) hP2); (try first | (have N1 := Lib.hid (Nb.newD (T := 29) (cs := #[.slice none 0 0]) E.out.size bb)) | (have N1 := Lib.hid (Nb.new (T := 29) (cs := #[.slice none 0 0]) E.out.size bb)) | (have N1 := Lib.hid (Nb.newAD (T := 29) (cs := #[.slice none 0 0]) E.out.size bb)) | (have N1 := Lib.hid (Nb.newA (T := 29) (cs := #[.slice none 0 0]) E.out.size bb)) | (have N1 := Lib.hid (Nb.newBD (T := 29) (cs := #[.slice none 0 0]) E.out.size bb)) | (have N1 := Lib.hid (Nb.newB (T := 29) (cs := #[.slice none 0 0]) E.out.size bb)) | (have N1 := Lib.hid (Nb.next N1.out bb)) | (have N1 := Lib.hid (Nb.nextA N1.out bb))); (try first | (have N2 := Lib.hid (Nb.newD (T := 51) (cs := #[.int .i64 0, .int .i64 0]) E.out.size bb)) | (have N2 := Lib.hid (Nb.new (T := 51) (cs := #[.int .i64 0, .int .i64 0]) E.out.size bb)) | (have N2 := Lib.hid (Nb.newAD (T := 51) (cs := #[.int .i64 0, .int .i64 0]) E.out.size bb)) | (have N2 := Lib.hid (Nb.newA (T := 51) (cs := #[.int .i64 0, .int .i64 0]) E.out.size bb)) | (have N2 := Lib.hid (Nb.newBD (T := 51) (cs := #[.int .i64 0, .int .i64 0]) E.out.size bb)) | (have N2 := Lib.hid (Nb.newB (T := 51) (cs := #[.int .i64 0, .int .i64 0]) E.out.size bb)) | (have N2 := Lib.hid (Nb.next N2.out bb)) | (have N2 := Lib.hid (Nb.nextA N2.out bb))); have E := Lib.hid (below_next (PB.out _ (by assumption)) bb); have BS := Lib.hid bb.size; clear bb hP2; (try (have z0 := N1.out.1.cell 0; have y0 := N1.out.1.frozen 0; have z0' := fun o => (N1.out.1.al o).cell 0; have y0' := fun o => (N1.out.1.al o).frozen 0; simp only [List.getElem?_toArray, List.getElem?_cons_zero] at z0 z0'; have ne1 := Nat.ne_of_lt N1.out.1.lt; have ne1' := (Nat.ne_of_lt N1.out.1.lt).symm)); (try (have z1 := N2.out.1.cell 0; have y1 := N2.out.1.frozen 0; have z2 := N2.out.1.cell 1; have y2 := N2.out.1.frozen 1; have z1' := fun o => (N2.out.1.al o).cell 0; have y1' := fun o => (N2.out.1.al o).frozen 0; have z2' := fun o => (N2.out.1.al o).cell 1; have y2' := fun o => (N2.out.1.al o).frozen 1; simp only [List.getElem?_toArray, List.getElem?_cons_zero, List.getElem?_cons_succ] at z1 z2 z1' z2'; have ne2 := Nat.ne_of_lt N2.out.1.lt; have ne2' := (Nat.ne_of_lt N2.out.1.lt).symm)); (try (have ne3 := N1.out.1.kind N2.out.1 (by decide); have ne3' := ne3.symm))))
    all_goals go_wp2_with fail
    all_goals go_meet
    all_goals (case rel =>
      refine ⟨_, _, A2, n2, c2, rfl, rfl, RefP.ends (hi := X1.heap.size) NL.out O2.out.1 E.out O2.out.2 hRZ ?_ ?_ ?_ ?_ ?_ ?_ ?_⟩
      · repeat (first | with_reducible exact Turns.refl _ _ | with_reducible refine Turns.alloc ?_ _ | with_reducible refine Turns.setCell ?_ _ _ (fun _ => Or.inl rfl) | with_reducible refine Turns.setCell ?_ _ _ (fun _ => Or.inr rfl))
      · (first | exact N1.out.ge | (have := E.out.size; omega))
      · (first | exact N2.out.ge | (have := E.out.size; omega))
      · (first | exact .inl ⟨.inl L1.out, N1.out.lt⟩ | exact .inl ⟨.inr (by omega), N1.out.lt⟩ | exact .inr (by omega))
      · (first | exact .inl ⟨.inl L2.out, N2.out.lt⟩ | exact .inl ⟨.inr (by omega), N2.out.lt⟩ | exact .inr (by omega))
      · apply Blk.eq
        · repeat (first | with_reducible exact N1.out.blk | with_reducible exact N2.out.blk | with_reducible exact Blk.new _ _ _ | with_reducible exact blk_new1 _ _ _ _ | with_reducible apply Blk.al | with_reducible apply Blk.set_ | with_reducible apply Blk.far | (first | with_reducible exact N1.out.blk.kind N2.out.blk (by decide) | with_reducible exact N2.out.blk.kind N1.out.blk (by decide) | (have := N1.out.blk.lt; omega) | (have := N2.out.blk.lt; omega) | omega))
        · rfl
      · apply Blk.eq
        · repeat (first | with_reducible exact N1.out.blk | with_reducible exact N2.out.blk | with_reducible exact Blk.new _ _ _ | with_reducible exact blk_new1 _ _ _ _ | with_reducible apply Blk.al | with_reducible apply Blk.set_ | with_reducible apply Blk.far | (first | with_reducible exact N1.out.blk.kind N2.out.blk (by decide) | with_reducible exact N2.out.blk.kind N1.out.blk (by decide) | (have := N1.out.blk.lt; omega) | (have := N2.out.blk.lt; omega) | omega))
        · rfl)
  case rest =>
    obtain ⟨b1, b2, A2, n2, c2, rfl, rfl, hRef, hB2⟩ := hcut
    have hT2 := G2.out.1.ref hRef.bel hRef.pl
    have hresW := (G2.out.2.1.below hRef.bel).res
    have hhW := G2.out.2.2.below hRef.bel G2.out.2.2.lt
    have hs1 : b1 ≠ s := fun e => by
      have h1 := hRef.ge
      have h2 := G2.out.2.1.res.lt
      omega
    have hs2 : b2 ≠ s := hB2.kind hresW (by decide)
    have hs3 : hb ≠ s := hhW.kind hresW (by decide)
    have PT : Hid (∀ X', Turns (fun x => x = s) wc X' → X'.cell? ⟨b1, 0, none⟩ = some (.slice A2 n2 c2) ∧ X'.cell? ⟨hb, 0, none⟩ = some (.int .i64 (Ar.lo L : Int)) ∧ X'.cell? ⟨hb, 1, none⟩ = some (.int .i64 (Ar.next L : Int)) ∧ X'.cell? ⟨b2, 0, none⟩ = some (.int .i64 (Ar.lo L : Int)) ∧ X'.cell? ⟨b2, 1, none⟩ = some (.int .i64 (Ar.next L : Int))) := Lib.hid fun X' ht =>
      have h1 := ht.blk hRef.box hs1
      have h2 := ht.blk hB2 hs2
      have h3 := ht.blk hhW hs3
      ⟨h1.cell 0, h3.cell 0, h3.cell 1, h2.cell 0, h2.cell 1⟩
    have T0 : Hid (Turns (fun x => x = s) wc wc.drew) := Lib.hid (Turns.refl _ _).drew
    have TA : Hid (∀ X' u, Turns (fun x => x = s) wc X' → Turns (fun x => x = s) wc (X'.setCell ⟨s, 0, none⟩ u)) := Lib.hid fun X' u h => h.setCell _ _ (fun _ => rfl)
    have TD : Hid (∀ X', Turns (fun x => x = s) wc X' → Turns (fun x => x = s) wc X'.drew) := Lib.hid fun X' h => h.drew
    have TI : Hid (Turns (fun x => x = s) wc wc) := Lib.hid (Turns.refl _ _)
    have HE : Hid (∀ V, Turns (fun x => x = s) wc V → ∃ L' A' n' c' P' R', (Value.tuple #[.agg #[.slice A2 n2 c2], .bool true]) = .tuple #[.agg #[.slice A' n' c'], .bool true] ∧ Two w0 V g L' L' A' n' P' R' ∧ Few L' (k + 1) ∧ Turns P w V ∧ (∀ b, P' b → P b ∨ w.heap.size ≤ b) ∧ ∀ b, R' b → R b ∨ w.heap.size ≤ b) := Lib.hid fun V ht => ⟨_, A2, n2, c2, _, _, rfl, hT2.off ht (by
      rintro y rfl
      obtain ⟨hP1, hPlt, hRlt, hw0, nY, nWnb, es, eW, nZ⟩ := HPl.out
      refine ⟨fun e => ?_, fun e => ?_, by omega⟩
      · rcases hP1 _ e with h1 | h1
        · have := hPlt _ h1
          omega
        · omega
      · have h2 := G2.out.2.1.res.lt
        rcases e.1 with h1 | h1
        · have := hRlt _ h1
          omega
        · omega), HM.out.2.2.1.make d, (HT2.out.trans (Turns.of_below hRef.bel)).then ht (fun y hy e => by have h1 := HPl.out.2.2.2.2.2.2.1; subst e; omega), fun b hb => (HPl.out.1 b hb).elim .inl (fun h1 => .inr (by have hs1 := HK.out.2.2.2.2.1.size; have hs2 := HY.out.2.1.size; omega)), fun b hb => hb.1.elim .inl (fun h1 => .inr (by have hs3 := HT2.out.size; omega))⟩
    have hs0 := Lib.hid hresW
    have zs0 := hresW.cell 0
    have fs0 := hresW.frozen 0
    simp only [List.getElem?_toArray, List.getElem?_cons_zero] at zs0
    clear hT2 hresW hhW hRef hB2 hs1 hs2 hs3
    have g1 := rhandle_guard
    have q1 : ∀ W, (Op.equalIn 10000 51 (.agg #[.int .i64 (Ar.lo L : Int), .int .i64 (Ar.next L : Int)]) (.agg #[.int .i64 (Ar.lo L : Int), .int .i64 (Ar.next L : Int)])).run Tryd.prog W = .ok true W := fun W => by
      rw [rhandle_same]
      simp
    go_upto_region 15 with fail
    go_region_held3 (fun X' => X'.cell? ⟨b1, 0, none⟩ = some (.slice A2 n2 c2) ∧ X'.cell? ⟨hb, 0, none⟩ = some (.int .i64 (Ar.lo L : Int)) ∧ X'.cell? ⟨hb, 1, none⟩ = some (.int .i64 (Ar.next L : Int)) ∧ X'.cell? ⟨b2, 0, none⟩ = some (.int .i64 (Ar.lo L : Int)) ∧ X'.cell? ⟨b2, 1, none⟩ = some (.int .i64 (Ar.next L : Int))) (first | with_reducible exact PT.out _ T0.out | with_reducible exact PT.out _ T.out | with_reducible exact PT.out _ (TA.out _ _ T.out) | with_reducible exact PT.out _ (TA.out _ _ T0.out) | with_reducible exact PT.out _ (TD.out _ (TA.out _ _ TI.out)) | with_reducible exact PT.out _ (TA.out _ _ TI.out) | fail) (first
      | (go_at_call 15; (with_reducible refine (handle_any wc.drew _ _).mono ?_); rintro e X1 ⟨rfl, bb⟩; have T := Lib.hid (T0.out.trans (Turns.of_below bb)); have B1 := Lib.hid (Blk.below (w := wc.drew) hs0.out bb hs0.out.lt); have zs := B1.out.cell 0; have fs := B1.out.frozen 0; simp only [List.getElem?_toArray, List.getElem?_cons_zero] at zs; clear bb))
    obtain ⟨V, hV⟩ : ∃ V, X1.setCell ⟨s, 0, none⟩ (.slice A2 n2 c2) = V := ⟨_, rfl⟩
    have bV : Blk V s 29 #[.slice A2 n2 c2] := hV ▸ B1.out.set_ 0 _
    have x0 := bV.cell 0
    simp only [List.getElem?_toArray, List.getElem?_cons_zero] at x0
    have HV := Lib.hid (HE.out V (hV ▸ TA.out _ _ T.out))
    have HVV := Lib.hid hV
    clear hV bV zs fs zs0 fs0 g1 q1
    go_wp2_with fail
    change bodyPost _ _ _ _ _ (X1.setCell ⟨s, 0, none⟩ (.slice A2 n2 c2))
    rw [HVV.out]
    obtain ⟨L', A', n', c', P', R', hval, hTwo, hFew, hTu, hPs, hRs⟩ := HV.out
    refine bodyPost_ret (v := .tuple #[.agg #[.slice A2 n2 c2], .bool true]) ?_ rfl ⟨L', A', n', c', P', R', by rw [hval], hTwo, hFew, hTu, hPs, hRs⟩
    simp [results, Tryd.results11, go_sem, x0]
end Go.Proofs.YtgpcpjjdneimfaaDoor
