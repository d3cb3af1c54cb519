/- Layer 8, the program: all parts taken. -/
import Derived.Test.YtognlgklepgemaaRpTc
import Derived.Test.YtognlgklepgemaaRpR
namespace Go.Proofs.Ytognlgklepgemaa
open Go.ChangeShapes Go.WideShapes Go.ChangeAt Go.RowKit

namespace Rp
/-- What has been taken of a reply so far. -/
structure Sg where
  x : V
  rows : List Rw
  gone : List Pn
  s : St
  odd : Bool
def V.num (x : V) (p n : Nat) : V := if p = 2 then { x with ep := n } else if p = 3 then { x with fl := n } else if p = 4 then { x with un := n } else if p = 5 then { x with le := n } else if p = 6 then { x with st := n } else { x with ti := n }
def Sg.step (σ : Sg) (p : Nat) : Sg :=
  if p = 0 then { σ with x := { σ.x with code := vl σ.s 2 }, s := nx σ.s 2 }
  else if p = 1 then { σ with x := { σ.x with last := decide (vl σ.s 1 = 1) }, s := nx σ.s 1, odd := σ.odd || decide (1 < vl σ.s 1) }
  else if p = 8 then { σ with x := { σ.x with n := vl σ.s 1 }, rows := (tList tRow (vl σ.s 1) (nx σ.s 1)).1, s := (tList tRow (vl σ.s 1) (nx σ.s 1)).2 }
  else if p = 9 then { σ with x := { σ.x with m := vl σ.s 1 }, gone := (tList tPane (vl σ.s 1) (nx σ.s 1)).1, s := (tList tPane (vl σ.s 1) (nx σ.s 1)).2 }
  else { σ with x := σ.x.num p (vl σ.s 8), s := nx σ.s 8 }
theorem Sg.step_num (σ : Sg) (p : Nat) (h1 : 2 ≤ p) (h2 : p ≤ 7) : σ.step p = { σ with x := σ.x.num p (vl σ.s 8), s := nx σ.s 8 } := by
  unfold Sg.step
  rw [if_neg (by omega), if_neg (by omega), if_neg (by omega), if_neg (by omega)]
theorem V.num_cells (x : V) (p n : Nat) (h1 : 2 ≤ p) (h2 : p ≤ 7) (A : Option Addr) (c : Nat) (G : Option Addr) (d : Nat) : ((x.num p n).at_ A c G d).cells = (x.at_ A c G d).cells.setIfInBounds (p + 2) (.int .u64 (n : Int)) := by
  have : p = 2 ∨ p = 3 ∨ p = 4 ∨ p = 5 ∨ p = 6 ∨ p = 7 := by omega
  rcases this with rfl | rfl | rfl | rfl | rfl | rfl <;> rfl
theorem V.num_nm (x : V) (p n : Nat) : (x.num p n).n = x.n ∧ (x.num p n).m = x.m ∧ (x.num p n).k = x.k ∧ (x.num p n).id = x.id := by
  unfold V.num
  repeat' split
  all_goals exact ⟨rfl, rfl, rfl, rfl⟩
/-- The bytes that are left are bytes. -/
def St.ok (s : St) : Prop := ∀ y ∈ s.1, y < 256
theorem nx_ok {s : St} (h : St.ok s) (k : Nat) : St.ok (nx s k) := Pk.left_lt s.2 s.1 k h
theorem tx_ok {s : St} (h : St.ok s) : St.ok (tx s) := by
  intro y hy
  unfold tx at hy
  dsimp only at hy
  unfold Pk.tleft at hy
  split at hy
  · exact h y hy
  · exact h y (List.mem_of_mem_drop hy)
theorem tPane_ok {s : St} (h : St.ok s) : St.ok (tPane s).2 := nx_ok (nx_ok (tx_ok h) 8) 8
theorem tRow_ok {s : St} (h : St.ok s) : St.ok (tRow s).2 := nx_ok (nx_ok (nx_ok (nx_ok (tPane_ok h) 8) 8) 8) 8
theorem tList_ok {α : Type} {f : St → α × St} (hf : ∀ s, St.ok s → St.ok (f s).2) (n : Nat) {s : St} (h : St.ok s) : St.ok (tList f n s).2 := by
  induction n generalizing s with
  | zero => exact h
  | succ n ih => exact ih (hf s h)
theorem vl_lt {s : St} (h : St.ok s) (k : Nat) : vl s k < 256 ^ k := Pk.taken_num_lt s.2 s.1 k h
/-- What is taken fits. -/
def Sg.ok (σ : Sg) : Prop := σ.x.ok ∧ St.ok σ.s ∧ σ.x.n < 256 ∧ σ.x.m < 256
theorem V.num_ok {x : V} (h : x.ok) (p n : Nat) (hn : n < 18446744073709551616) : (x.num p n).ok := by
  obtain ⟨o0, o1, o2, o3, o4, o5, o6, o7, o8⟩ := h
  unfold V.num
  repeat' split
  · exact ⟨o0, o1, o2, hn, o4, o5, o6, o7, o8⟩
  · exact ⟨o0, o1, o2, o3, hn, o5, o6, o7, o8⟩
  · exact ⟨o0, o1, o2, o3, o4, hn, o6, o7, o8⟩
  · exact ⟨o0, o1, o2, o3, o4, o5, hn, o7, o8⟩
  · exact ⟨o0, o1, o2, o3, o4, o5, o6, hn, o8⟩
  · exact ⟨o0, o1, o2, o3, o4, o5, o6, o7, hn⟩
theorem Sg.step_ok {σ : Sg} (h : σ.ok) (p : Nat) : (σ.step p).ok := by
  obtain ⟨⟨o0, o1, o2, o3, o4, o5, o6, o7, o8⟩, hs, hn, hm⟩ := h
  have v1 := vl_lt hs 1
  have v2 := vl_lt hs 2
  have v8 := vl_lt hs 8
  unfold Sg.step
  split
  · exact ⟨⟨o0, o1, v2, o3, o4, o5, o6, o7, o8⟩, nx_ok hs 2, hn, hm⟩
  · split
    · exact ⟨⟨o0, o1, o2, o3, o4, o5, o6, o7, o8⟩, nx_ok hs 1, hn, hm⟩
    · split
      · exact ⟨⟨o0, o1, o2, o3, o4, o5, o6, o7, o8⟩, tList_ok (fun s => tRow_ok) _ (nx_ok hs 1), v1, hm⟩
      · split
        · exact ⟨⟨o0, o1, o2, o3, o4, o5, o6, o7, o8⟩, tList_ok (fun s => tPane_ok) _ (nx_ok hs 1), hn, v1⟩
        · refine ⟨V.num_ok ⟨o0, o1, o2, o3, o4, o5, o6, o7, o8⟩ p _ v8, nx_ok hs 8, ?_, ?_⟩
          · show (σ.x.num p _).n < 256
            rw [(σ.x.num_nm p _).1]; exact hn
          · show (σ.x.num p _).m < 256
            rw [(σ.x.num_nm p _).2.1]; exact hm
theorem Sg.steps_ok (l : List Nat) {σ : Sg} (h : σ.ok) : (l.foldl Sg.step σ).ok := by
  induction l generalizing σ with
  | nil => exact h
  | cons p l ih => exact ih (Sg.step_ok h p)
end Rp
def takF (p : Nat) : FuncId := if p = 0 then 115 else if p = 1 then 116 else if p = 8 then 119 else if p = 9 then 118 else 117
theorem takF_num (p : Nat) (h1 : 2 ≤ p) (h2 : p ≤ 7) : takF p = 117 := by
  unfold takF
  rw [if_neg (by omega), if_neg (by omega), if_neg (by omega), if_neg (by omega)]
theorem tak_visitor (P : Nat) : Visitor 110 (.pointer (some ⟨P, 0, none⟩)) (.pointer (some ⟨P, 0, none⟩)) takF where
  code := ⟨fun _ => by kernel_rfl, fun _ _ => by kernel_rfl, fun _ => by kernel_rfl⟩
  flag := ⟨fun _ => by kernel_rfl, fun _ _ => by kernel_rfl, fun _ => by kernel_rfl⟩
  rows := ⟨fun _ => by kernel_rfl, fun _ _ => by kernel_rfl, fun _ => by kernel_rfl⟩
  panes := ⟨fun _ => by kernel_rfl, fun _ _ => by kernel_rfl, fun _ => by kernel_rfl⟩
  number p h1 h2 := by
    rw [takF_num p h1 h2]
    exact ⟨fun _ => by kernel_rfl, fun _ _ => by kernel_rfl, fun _ => by kernel_rfl⟩
/-- The taker, the reader and the reply at R. -/
def TkR (w0 W : World) (T g R : Nat) (σ : Rp.Sg) : Prop :=
  Tk w0 W T g σ.s σ.odd ∧ g < T ∧ g < R ∧ R ≠ T ∧ ∃ A c G d, Blk W R 28 (σ.x.at_ A c G d).cells ∧ W.ownsRow w0.heap.size 81 7 (.slice A σ.x.n c) σ.x.n (rcells σ.rows) ∧ W.ownsRow w0.heap.size 77 3 (.slice G σ.x.m d) σ.x.m (pncells σ.gone)
theorem TkR.below {w0 W W' : World} {T g R : Nat} {σ : Rp.Sg} (h : TkR w0 W T g R σ) (b : Below W.heap.size W W') : TkR w0 W' T g R σ := by
  obtain ⟨h1, h2, h3, h4, A, c, G, d, h5, h6, h7⟩ := h
  exact ⟨h1.below b, h2, h3, h4, A, c, G, d, h5.below b h5.lt, own_below h6 b, own_below h7 b⟩
theorem own_frame {w w' : World} {R base e s n : Nat} {v : Value} {xs : List Value} {cs : Array Value} (h : w.ownsRow base e s v n xs) (hR : Blk w R 28 cs) (hf : ∀ k t ds, t ≠ 136 → t ≠ 107 → k ≠ R → Blk w k t ds → Blk w' k t ds) (he : e ≠ 136 ∧ e ≠ 107 ∧ e ≠ 28) : w'.ownsRow base e s v n xs := by
  refine ⟨h.1, ?_⟩
  rcases h.2 with hn | ⟨g, cap, cur, hv, hb, hg, rest⟩
  · exact .inl hn
  · exact .inr ⟨g, cap, cur, hv, hb, hf g e cur he.1 he.2.1 (blk_ne hg hR he.2.2) hg, rest⟩
theorem take_part (w0 W : World) (T g R p : Nat) (σ : Rp.Sg) (h : TkR w0 W T g R σ) (hp : p < 10) :
    Calls Try.prog (takF p) #[.pointer (some ⟨T, 0, none⟩), .pointer (some ⟨R, p + 2, none⟩)] W fun e W' => e = .returned (.tuple #[]) ∧ TkR w0 W' T g R (σ.step p) ∧ Parts W W' := by
  obtain ⟨h1, h2, h3, h4, A, c, G, d, h5, h6, h7⟩ := h
  have hw : w0.heap.size ≤ W.heap.size := h1.2.2.1.size
  have hi : p + 2 < (σ.x.at_ A c G d).cells.size := by show p + 2 < 12; omega
  have hparts : ∀ W', (∀ k t ds, t ≠ 136 → t ≠ 107 → k ≠ R → Blk W k t ds → Blk W' k t ds) → Parts W W' := fun W' hf k cs hb => hf k _ cs (by decide) (by decide) (blk_ne hb h5 (by decide)) hb
  by_cases p0 : p = 0
  · subst p0
    refine (take_code w0 W T g R 2 σ.s σ.odd _ h1 h5 h3 h4 hi).mono ?_
    rintro e W' ⟨rfl, k1, k2, k3, k4⟩
    exact ⟨rfl, ⟨k1, h2, h3, h4, A, c, G, d, k2, own_frame h6 h5 k3 (by decide), own_frame h7 h5 k3 (by decide)⟩, hparts W' k3⟩
  by_cases p1 : p = 1
  · subst p1
    refine (take_flag w0 W T g R 3 σ.s σ.odd _ h1 h5 h3 h4 hi h2).mono ?_
    rintro e W' ⟨rfl, k1, k2, k3, k4⟩
    exact ⟨rfl, ⟨k1, h2, h3, h4, A, c, G, d, k2, own_frame h6 h5 k3 (by decide), own_frame h7 h5 k3 (by decide)⟩, hparts W' k3⟩
  by_cases p8 : p = 8
  · subst p8
    refine (take_rows w0 W T g R 10 σ.s σ.odd _ h1 h5 h3 h4 hi).mono ?_
    rintro e W' ⟨A', c', ⟨rfl, k1, k2, k3, k4⟩, ho⟩
    exact ⟨rfl, ⟨k1, h2, h3, h4, A', c', G, d, k2, own_lower ho hw, own_frame h7 h5 k3 (by decide)⟩, hparts W' k3⟩
  by_cases p9 : p = 9
  · subst p9
    refine (take_panes w0 W T g R 11 σ.s σ.odd _ h1 h5 h3 h4 hi).mono ?_
    rintro e W' ⟨A', c', ⟨rfl, k1, k2, k3, k4⟩, ho⟩
    exact ⟨rfl, ⟨k1, h2, h3, h4, A, c, A', c', k2, own_frame h6 h5 k3 (by decide), own_lower ho hw⟩, hparts W' k3⟩
  · rw [takF_num p (by omega) (by omega), σ.step_num p (by omega) (by omega)]
    refine (take_number w0 W T g R (p + 2) σ.s σ.odd _ h1 h5 h3 h4 hi).mono ?_
    rintro e W' ⟨rfl, k1, k2, k3, k4⟩
    rw [← σ.x.num_cells p _ (by omega) (by omega) A c G d] at k2
    obtain ⟨e1, e2, -⟩ := σ.x.num_nm p (Rp.vl σ.s 8)
    refine ⟨rfl, ⟨k1, h2, h3, h4, A, c, G, d, k2, ?_, ?_⟩, hparts W' k3⟩
    · dsimp only
      rw [e1]
      exact own_frame h6 h5 k3 (by decide)
    · dsimp only
      rw [e2]
      exact own_frame h7 h5 k3 (by decide)
/-- All parts, taken. -/
theorem take_visit (w0 W : World) (T g R k : Nat) (σ : Rp.Sg) (h : TkR w0 W T g R σ) (hk : σ.x.k = k) (hk2 : k < 256) :
    Calls Try.prog 35 #[.pointer (some ⟨R, 0, none⟩), .iface 110 (.pointer (some ⟨T, 0, none⟩))] W fun e W' => e = .returned (.tuple #[]) ∧ TkR w0 W' T g R ((Rp.pparts k).foldl Rp.Sg.step σ) := by
  have hc : W.cell? ⟨R, 0, none⟩ = some (.int .u8 (k : Int)) := by
    obtain ⟨h1, h2, h3, h4, A, c, G, d, h5, h6, h7⟩ := h
    rw [← hk]
    exact h5.cell 0
  refine visit_any R 110 k _ W (fun l wr => TkR w0 wr T g R (l.foldl Rp.Sg.step σ)) hk2 hc (fun w1 h1 => h.below h1) (fun j p wr hj hp hI => ?_)
  have hp10 : p < 10 := Rp.pparts_lt k p (by
    rw [← hp, List.getD_eq_getElem?_getD, List.getElem?_eq_getElem hj]
    exact List.getElem_mem _)
  have e1 : (Rp.pparts k).take (j + 1) = (Rp.pparts k).take j ++ [p] := by rw [take_snoc _ _ hj, hp]
  refine show_any R _ p _ _ takF wr _ hp10 (tak_visitor T) ((take_part w0 wr.drew T g R p _ (hI.below (Below.refl _ _).drew) hp10).mono ?_)
  rintro e w' ⟨rfl, h1, h2⟩
  refine ⟨rfl, ?_, (Parts.below ((Below.refl _ wr).drew)).trans h2⟩
  rw [e1, List.foldl_append]
  exact h1
end Go.Proofs.Ytognlgklepgemaa
