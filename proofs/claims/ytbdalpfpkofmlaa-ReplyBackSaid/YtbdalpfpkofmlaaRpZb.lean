/- Layer 8's plain mathematics: what is parsed is packed as the same bytes. -/
import Derived.Test.YtbdalpfpkofmlaaRpZ
namespace Go.Proofs.Ytbdalpfpkofmlaa
open Go.ChangeShapes Go.WideShapes Go.ChangeAt Go.RowKit
namespace Rp
theorem nx_inv {s : St} (h : St.ok s) (k : Nat) (hf : (nx s k).2 = false) : s.2 = false ∧ s.1 = Pk.be k (vl s k) ++ (nx s k).1 := by
  obtain ⟨l, f⟩ := s
  unfold nx at hf
  dsimp only at hf
  obtain ⟨rfl, hk⟩ := Pk.fails_iff.1 hf
  refine ⟨rfl, ?_⟩
  unfold vl nx
  dsimp only
  rw [Pk.taken_no hf, Pk.left_no hf]
  have hl : (l.take k).length = k := by rw [List.length_take]; omega
  have e := be_num8 (l.take k) (fun x hx => h x (List.mem_of_mem_take hx))
  rw [hl] at e
  rw [e, List.take_append_drop]
theorem tx_inv {s : St} (h : St.ok s) (hf : (tx s).2 = false) : s.2 = false ∧ s.1 = Pk.tx (nums (tt s)) ++ (tx s).1 := by
  obtain ⟨l, f⟩ := s
  unfold tx at hf
  dsimp only at hf
  obtain ⟨h2, hl⟩ := Pk.tfails_iff.1 hf
  obtain ⟨rfl, hk⟩ := Pk.fails_iff.1 h2
  refine ⟨rfl, ?_⟩
  unfold tt tx
  dsimp only
  rw [Pk.ttaken_no hf, Pk.tleft_no hf]
  have hlt : ∀ x ∈ (l.drop 2).take (Pk.tlen false l), x < 256 := fun x hx => h x (List.mem_of_mem_drop (List.mem_of_mem_take hx))
  rw [nums_textOf8 hlt]
  unfold Pk.tx
  have e1 : ((l.drop 2).take (Pk.tlen false l)).length = Pk.tlen false l := by rw [List.length_take, List.length_drop]; omega
  have e2 : Pk.be 2 (Pk.tlen false l) = l.take 2 := by
    have e := be_num8 (l.take 2) (fun x hx => h x (List.mem_of_mem_take hx))
    have hl2 : (l.take 2).length = 2 := by rw [List.length_take]; omega
    rw [hl2] at e
    unfold Pk.tlen
    rw [Pk.taken_no h2]
    exact e
  rw [e1, e2, List.append_assoc, ← List.drop_drop, List.take_append_drop, List.take_append_drop]
theorem vl8 {s : St} (h : St.ok s) : vl s 8 < 18446744073709551616 := vl_lt h 8
theorem tPane_inv {s : St} (h : St.ok s) (hf : (tPane s).2.2 = false) : s.2 = false ∧ s.1 = pane (tPane s).1 ++ (tPane s).2.1 := by
  have o1 := tx_ok h
  have o2 := nx_ok o1 8
  obtain ⟨f2, e3⟩ := nx_inv o2 8 hf
  obtain ⟨f1, e2⟩ := nx_inv o1 8 f2
  obtain ⟨f0, e1⟩ := tx_inv h f1
  refine ⟨f0, ?_⟩
  unfold tPane pane
  dsimp only
  rw [u_sg (vl8 o1), u_sg (vl8 o2), List.append_assoc, List.append_assoc, ← e3, ← e2, ← e1]
theorem tAgg_inv {s : St} (h : St.ok s) (hf : (tAgg s).2.2 = false) : s.2 = false ∧ s.1 = agg (tAgg s).1 ++ (tAgg s).2.1 := by
  have o1 := nx_ok h 8
  have o2 := nx_ok o1 8
  have o3 := nx_ok o2 8
  obtain ⟨f3, e4⟩ := nx_inv o3 8 hf
  obtain ⟨f2, e3⟩ := nx_inv o2 8 f3
  obtain ⟨f1, e2⟩ := nx_inv o1 8 f2
  obtain ⟨f0, e1⟩ := nx_inv h 8 f1
  refine ⟨f0, ?_⟩
  unfold tAgg agg
  dsimp only
  rw [u_sg (vl8 h), u_sg (vl8 o1), u_sg (vl8 o2), u_sg (vl8 o3), List.append_assoc, List.append_assoc, List.append_assoc, ← e4, ← e3, ← e2, ← e1]
theorem tRow_inv {s : St} (h : St.ok s) (hf : (tRow s).2.2 = false) : s.2 = false ∧ s.1 = row (tRow s).1 ++ (tRow s).2.1 := by
  obtain ⟨f1, e2⟩ := tAgg_inv (tPane_ok h) hf
  obtain ⟨f0, e1⟩ := tPane_inv h f1
  refine ⟨f0, ?_⟩
  unfold tRow row
  dsimp only
  rw [List.append_assoc, ← e2, ← e1]
theorem tList_inv {α : Type} {f : St → α × St} {g : α → List Nat} (hok : ∀ s, St.ok s → St.ok (f s).2) (hinv : ∀ s, St.ok s → (f s).2.2 = false → s.2 = false ∧ s.1 = g (f s).1 ++ (f s).2.1) (n : Nat) {s : St} (h : St.ok s) (hf : (tList f n s).2.2 = false) : s.2 = false ∧ s.1 = (tList f n s).1.flatMap g ++ (tList f n s).2.1 := by
  induction n generalizing s with
  | zero => exact ⟨hf, by simp [tList]⟩
  | succ n ih =>
    obtain ⟨f1, e2⟩ := ih (hok s h) hf
    obtain ⟨f0, e1⟩ := hinv s h f1
    refine ⟨f0, ?_⟩
    show s.1 = ((f s).1 :: (tList f n (f s).2).1).flatMap g ++ (tList f n (f s).2).2.1
    rw [List.flatMap_cons, List.append_assoc, ← e2, ← e1]
theorem inv_num (σ : Sg) (p : Nat) (h : St.ok σ.s) (h1 : 2 ≤ p) (h2 : p ≤ 7) (hf : (σ.step p).s.2 = false) : σ.s.2 = false ∧ (σ.step p).odd = σ.odd ∧ σ.s.1 = Pk.be 8 (vl σ.s 8) ++ (σ.step p).s.1 := by
  rw [σ.step_num p h1 h2] at hf ⊢
  obtain ⟨a, b⟩ := nx_inv h 8 hf
  exact ⟨a, rfl, b⟩
theorem inv_code (σ : Sg) (h : St.ok σ.s) (hf : (σ.step 0).s.2 = false) : σ.s.2 = false ∧ (σ.step 0).odd = σ.odd ∧ σ.s.1 = Pk.be 2 (vl σ.s 2) ++ (σ.step 0).s.1 := by
  obtain ⟨a, b⟩ := nx_inv h 2 hf
  exact ⟨a, rfl, b⟩
theorem inv_flag (σ : Sg) (h : St.ok σ.s) (hf : (σ.step 1).s.2 = false) (ho : (σ.step 1).odd = false) : σ.s.2 = false ∧ σ.odd = false ∧ σ.s.1 = [if (σ.step 1).x.last then 1 else 0] ++ (σ.step 1).s.1 := by
  obtain ⟨a, b⟩ := nx_inv h 1 hf
  have ho' : (σ.odd || decide (1 < vl σ.s 1)) = false := ho
  rw [Bool.or_eq_false_iff, decide_eq_false_iff_not] at ho'
  have hv := vl_lt h 1
  rw [be_one _ hv] at b
  refine ⟨a, ho'.1, ?_⟩
  have e : (σ.step 1).x.last = decide (vl σ.s 1 = 1) := rfl
  have e2 : (σ.step 1).s.1 = (nx σ.s 1).1 := rfl
  rw [e, e2, b]
  by_cases h1 : vl σ.s 1 = 1
  · rw [decide_eq_true h1, h1]; rfl
  · have h0 : vl σ.s 1 = 0 := by omega
    rw [decide_eq_false h1, h0]; rfl
theorem inv_rows (σ : Sg) (h : St.ok σ.s) (hf : (σ.step 8).s.2 = false) : σ.s.2 = false ∧ (σ.step 8).odd = σ.odd ∧ σ.s.1 = ((σ.step 8).x.n % 256 :: (σ.step 8).rows.flatMap row) ++ (σ.step 8).s.1 ∧ (σ.step 8).rows.length = (σ.step 8).x.n := by
  obtain ⟨a, b⟩ := tList_inv (g := row) (fun s => tRow_ok) (fun s hs hf => tRow_inv hs hf) (vl σ.s 1) (nx_ok h 1) hf
  obtain ⟨a2, b2⟩ := nx_inv h 1 a
  have hv := vl_lt h 1
  rw [be_one _ hv, b] at b2
  refine ⟨a2, rfl, ?_, tList_len _ _ _⟩
  show σ.s.1 = (vl σ.s 1 % 256 :: (tList tRow (vl σ.s 1) (nx σ.s 1)).1.flatMap row) ++ (tList tRow (vl σ.s 1) (nx σ.s 1)).2.1
  rw [Nat.mod_eq_of_lt hv]
  exact b2
theorem inv_gone (σ : Sg) (h : St.ok σ.s) (hf : (σ.step 9).s.2 = false) : σ.s.2 = false ∧ (σ.step 9).odd = σ.odd ∧ σ.s.1 = ((σ.step 9).x.m % 256 :: (σ.step 9).gone.flatMap pane) ++ (σ.step 9).s.1 ∧ (σ.step 9).gone.length = (σ.step 9).x.m := by
  obtain ⟨a, b⟩ := tList_inv (g := pane) (fun s => tPane_ok) (fun s hs hf => tPane_inv hs hf) (vl σ.s 1) (nx_ok h 1) hf
  obtain ⟨a2, b2⟩ := nx_inv h 1 a
  have hv := vl_lt h 1
  rw [be_one _ hv, b] at b2
  refine ⟨a2, rfl, ?_, tList_len _ _ _⟩
  show σ.s.1 = (vl σ.s 1 % 256 :: (tList tPane (vl σ.s 1) (nx σ.s 1)).1.flatMap pane) ++ (tList tPane (vl σ.s 1) (nx σ.s 1)).2.1
  rw [Nat.mod_eq_of_lt hv]
  exact b2
theorem steps_flat (σ0 : Sg) (h : σ0.ok) (h0 : σ0.rows = [] ∧ σ0.gone = [] ∧ σ0.x.n = 0 ∧ σ0.x.m = 0) (k : Nat) (hk : σ0.x.k = k) (hk1 : 1 ≤ k) (hk2 : k ≤ 7) (hf : ((pparts k).foldl Sg.step σ0).s.2 = false) (ho : ((pparts k).foldl Sg.step σ0).odd = false) :
    σ0.s.2 = false ∧ ((pparts k).foldl Sg.step σ0).x.k = σ0.x.k ∧ ((pparts k).foldl Sg.step σ0).x.id = σ0.x.id ∧ σ0.s.1 = (parts k).flatMap (((pparts k).foldl Sg.step σ0).x.part ((pparts k).foldl Sg.step σ0).rows ((pparts k).foldl Sg.step σ0).gone) ++ ((pparts k).foldl Sg.step σ0).s.1 ∧ ((pparts k).foldl Sg.step σ0).rows.length = ((pparts k).foldl Sg.step σ0).x.n ∧ ((pparts k).foldl Sg.step σ0).gone.length = ((pparts k).foldl Sg.step σ0).x.m := by
  have hk : k = 1 ∨ k = 2 ∨ k = 3 ∨ k = 4 ∨ k = 5 ∨ k = 6 ∨ k = 7 := by omega
  rcases hk with rfl | rfl | rfl | rfl | rfl | rfl | rfl
  · rw [show pparts 1 = [2, 1, 8] from rfl] at hf ho ⊢
    rw [show parts 1 = [101, 108, 114] from rfl]
    simp only [List.foldl_cons, List.foldl_nil, List.flatMap_cons, List.flatMap_nil] at hf ho ⊢
    have k0 := h
    have k1 := Sg.step_ok k0 2
    have k2 := Sg.step_ok k1 1
    have k3 := Sg.step_ok k2 8
    obtain ⟨f2, q2, e2, l2⟩ := inv_rows ((σ0.step 2).step 1) k2.2.1 hf
    have o2 := q2.symm.trans ho
    obtain ⟨f1, o1, e1⟩ := inv_flag (σ0.step 2) k1.2.1 f2 o2
    obtain ⟨f0, q0, e0⟩ := inv_num σ0 2 k0.2.1 (by omega) (by omega) f1
    have o0 := q0.symm.trans o1
    refine ⟨f0, rfl, rfl, ?_, l2, (by show (((σ0.step 2).step 1).step 8).gone.length = (((σ0.step 2).step 1).step 8).x.m; exact (by rw [show (((σ0.step 2).step 1).step 8).gone = σ0.gone from rfl, show (((σ0.step 2).step 1).step 8).x.m = σ0.x.m from rfl, h0.2.1, h0.2.2.2]; rfl))⟩
    rw [e0, e1, e2]
    simp only [List.append_assoc, List.append_nil]
    rfl
  · rw [show pparts 2 = [5, 2, 4] from rfl] at hf ho ⊢
    rw [show parts 2 = [76, 101, 117] from rfl]
    simp only [List.foldl_cons, List.foldl_nil, List.flatMap_cons, List.flatMap_nil] at hf ho ⊢
    have k0 := h
    have k1 := Sg.step_ok k0 5
    have k2 := Sg.step_ok k1 2
    have k3 := Sg.step_ok k2 4
    obtain ⟨f2, q2, e2⟩ := inv_num ((σ0.step 5).step 2) 4 k2.2.1 (by omega) (by omega) hf
    have o2 := q2.symm.trans ho
    obtain ⟨f1, q1, e1⟩ := inv_num (σ0.step 5) 2 k1.2.1 (by omega) (by omega) f2
    have o1 := q1.symm.trans o2
    obtain ⟨f0, q0, e0⟩ := inv_num σ0 5 k0.2.1 (by omega) (by omega) f1
    have o0 := q0.symm.trans o1
    refine ⟨f0, rfl, rfl, ?_, (by show (((σ0.step 5).step 2).step 4).rows.length = (((σ0.step 5).step 2).step 4).x.n; exact (by rw [show (((σ0.step 5).step 2).step 4).rows = σ0.rows from rfl, show (((σ0.step 5).step 2).step 4).x.n = σ0.x.n from rfl, h0.1, h0.2.2.1]; rfl)), (by show (((σ0.step 5).step 2).step 4).gone.length = (((σ0.step 5).step 2).step 4).x.m; exact (by rw [show (((σ0.step 5).step 2).step 4).gone = σ0.gone from rfl, show (((σ0.step 5).step 2).step 4).x.m = σ0.x.m from rfl, h0.2.1, h0.2.2.2]; rfl))⟩
    rw [e0, e1, e2]
    simp only [List.append_assoc, List.append_nil]
    rfl
  · rw [show pparts 3 = [5, 2, 4] from rfl] at hf ho ⊢
    rw [show parts 3 = [76, 101, 117] from rfl]
    simp only [List.foldl_cons, List.foldl_nil, List.flatMap_cons, List.flatMap_nil] at hf ho ⊢
    have k0 := h
    have k1 := Sg.step_ok k0 5
    have k2 := Sg.step_ok k1 2
    have k3 := Sg.step_ok k2 4
    obtain ⟨f2, q2, e2⟩ := inv_num ((σ0.step 5).step 2) 4 k2.2.1 (by omega) (by omega) hf
    have o2 := q2.symm.trans ho
    obtain ⟨f1, q1, e1⟩ := inv_num (σ0.step 5) 2 k1.2.1 (by omega) (by omega) f2
    have o1 := q1.symm.trans o2
    obtain ⟨f0, q0, e0⟩ := inv_num σ0 5 k0.2.1 (by omega) (by omega) f1
    have o0 := q0.symm.trans o1
    refine ⟨f0, rfl, rfl, ?_, (by show (((σ0.step 5).step 2).step 4).rows.length = (((σ0.step 5).step 2).step 4).x.n; exact (by rw [show (((σ0.step 5).step 2).step 4).rows = σ0.rows from rfl, show (((σ0.step 5).step 2).step 4).x.n = σ0.x.n from rfl, h0.1, h0.2.2.1]; rfl)), (by show (((σ0.step 5).step 2).step 4).gone.length = (((σ0.step 5).step 2).step 4).x.m; exact (by rw [show (((σ0.step 5).step 2).step 4).gone = σ0.gone from rfl, show (((σ0.step 5).step 2).step 4).x.m = σ0.x.m from rfl, h0.2.1, h0.2.2.2]; rfl))⟩
    rw [e0, e1, e2]
    simp only [List.append_assoc, List.append_nil]
    rfl
  · rw [show pparts 4 = [2, 1, 8, 9] from rfl] at hf ho ⊢
    rw [show parts 4 = [101, 108, 114, 103] from rfl]
    simp only [List.foldl_cons, List.foldl_nil, List.flatMap_cons, List.flatMap_nil] at hf ho ⊢
    have k0 := h
    have k1 := Sg.step_ok k0 2
    have k2 := Sg.step_ok k1 1
    have k3 := Sg.step_ok k2 8
    have k4 := Sg.step_ok k3 9
    obtain ⟨f3, q3, e3, l3⟩ := inv_gone (((σ0.step 2).step 1).step 8) k3.2.1 hf
    have o3 := q3.symm.trans ho
    obtain ⟨f2, q2, e2, l2⟩ := inv_rows ((σ0.step 2).step 1) k2.2.1 f3
    have o2 := q2.symm.trans o3
    obtain ⟨f1, o1, e1⟩ := inv_flag (σ0.step 2) k1.2.1 f2 o2
    obtain ⟨f0, q0, e0⟩ := inv_num σ0 2 k0.2.1 (by omega) (by omega) f1
    have o0 := q0.symm.trans o1
    refine ⟨f0, rfl, rfl, ?_, l2, l3⟩
    rw [e0, e1, e2, e3]
    simp only [List.append_assoc, List.append_nil]
    rfl
  · rw [show pparts 5 = [2, 3, 6, 7] from rfl] at hf ho ⊢
    rw [show parts 5 = [101, 102, 115, 116] from rfl]
    simp only [List.foldl_cons, List.foldl_nil, List.flatMap_cons, List.flatMap_nil] at hf ho ⊢
    have k0 := h
    have k1 := Sg.step_ok k0 2
    have k2 := Sg.step_ok k1 3
    have k3 := Sg.step_ok k2 6
    have k4 := Sg.step_ok k3 7
    obtain ⟨f3, q3, e3⟩ := inv_num (((σ0.step 2).step 3).step 6) 7 k3.2.1 (by omega) (by omega) hf
    have o3 := q3.symm.trans ho
    obtain ⟨f2, q2, e2⟩ := inv_num ((σ0.step 2).step 3) 6 k2.2.1 (by omega) (by omega) f3
    have o2 := q2.symm.trans o3
    obtain ⟨f1, q1, e1⟩ := inv_num (σ0.step 2) 3 k1.2.1 (by omega) (by omega) f2
    have o1 := q1.symm.trans o2
    obtain ⟨f0, q0, e0⟩ := inv_num σ0 2 k0.2.1 (by omega) (by omega) f1
    have o0 := q0.symm.trans o1
    refine ⟨f0, rfl, rfl, ?_, (by show ((((σ0.step 2).step 3).step 6).step 7).rows.length = ((((σ0.step 2).step 3).step 6).step 7).x.n; exact (by rw [show ((((σ0.step 2).step 3).step 6).step 7).rows = σ0.rows from rfl, show ((((σ0.step 2).step 3).step 6).step 7).x.n = σ0.x.n from rfl, h0.1, h0.2.2.1]; rfl)), (by show ((((σ0.step 2).step 3).step 6).step 7).gone.length = ((((σ0.step 2).step 3).step 6).step 7).x.m; exact (by rw [show ((((σ0.step 2).step 3).step 6).step 7).gone = σ0.gone from rfl, show ((((σ0.step 2).step 3).step 6).step 7).x.m = σ0.x.m from rfl, h0.2.1, h0.2.2.2]; rfl))⟩
    rw [e0, e1, e2, e3]
    simp only [List.append_assoc, List.append_nil]
    rfl
  · rw [show pparts 6 = [] from rfl] at hf ho ⊢
    rw [show parts 6 = [] from rfl]
    simp only [List.foldl_nil, List.flatMap_nil] at hf ho ⊢
    exact ⟨hf, trivial, trivial, rfl, by rw [h0.1, h0.2.2.1]; rfl, by rw [h0.2.1, h0.2.2.2]; rfl⟩
  · rw [show pparts 7 = [0, 3] from rfl] at hf ho ⊢
    rw [show parts 7 = [99, 102] from rfl]
    simp only [List.foldl_cons, List.foldl_nil, List.flatMap_cons, List.flatMap_nil] at hf ho ⊢
    have k0 := h
    have k1 := Sg.step_ok k0 0
    have k2 := Sg.step_ok k1 3
    obtain ⟨f1, q1, e1⟩ := inv_num (σ0.step 0) 3 k1.2.1 (by omega) (by omega) hf
    have o1 := q1.symm.trans ho
    obtain ⟨f0, q0, e0⟩ := inv_code σ0 k0.2.1 f1
    have o0 := q0.symm.trans o1
    refine ⟨f0, rfl, rfl, ?_, (by show ((σ0.step 0).step 3).rows.length = ((σ0.step 0).step 3).x.n; exact (by rw [show ((σ0.step 0).step 3).rows = σ0.rows from rfl, show ((σ0.step 0).step 3).x.n = σ0.x.n from rfl, h0.1, h0.2.2.1]; rfl)), (by show ((σ0.step 0).step 3).gone.length = ((σ0.step 0).step 3).x.m; exact (by rw [show ((σ0.step 0).step 3).gone = σ0.gone from rfl, show ((σ0.step 0).step 3).x.m = σ0.x.m from rfl, h0.2.1, h0.2.2.2]; rfl))⟩
    rw [e0, e1]
    simp only [List.append_assoc, List.append_nil]
    rfl
/-- WHAT IS PARSED IS PACKED AS THE SAME BYTES. -/
theorem forth {b : List Nat} (hb : ∀ y ∈ b, y < 256) (h : pse b = 0) : (fin b).x.right (fin b).rows (fin b).gone = true ∧ (fin b).x.bytes (fin b).rows (fin b).gone = b ∧ (fin b).rows.length = (fin b).x.n ∧ (fin b).gone.length = (fin b).x.m := by
  unfold pse at h
  split at h
  · exact absurd h (by decide)
  unfold Sg.err at h
  split at h
  rotate_left
  · rename_i hd
    exact absurd h hd
  rename_i hd
  split at h
  · exact absurd h (by decide)
  rename_i hor
  simp only [Bool.or_eq_true, Bool.not_eq_true', not_or, Bool.not_eq_false, Bool.not_eq_true] at hor
  obtain ⟨ho, hrt⟩ := hor
  have hff : (fin b).s.2 = false ∧ (fin b).s.1 = [] := by
    unfold Sg.done doneOf at hd
    split at hd
    · exact absurd hd (by decide)
    · rename_i hf
      split at hd
      · exact absurd hd (by decide)
      · rename_i hl
        exact ⟨by simpa using hf, List.eq_nil_of_length_eq_zero (by omega)⟩
  have hkind := (right_keys hrt).1
  obtain ⟨k1, k2, -, -⟩ := of_decide_eq_true hkind
  have hxk : (fin b).x.k = (s0 b).x.k := by
    have : ∀ (l : List Nat) (σ : Sg), (l.foldl Sg.step σ).x.k = σ.x.k := by
      intro l
      induction l with
      | nil => intro σ; rfl
      | cons p l ih =>
        intro σ
        rw [List.foldl_cons, ih]
        unfold Sg.step
        repeat' split
        all_goals first | rfl | exact (σ.x.num_nm p _).2.2.1
    exact this _ _
  rw [hxk] at k1 k2
  obtain ⟨g0, g1, g2, g3, g4, g5⟩ := steps_flat (s0 b) (s0_ok hb) ⟨rfl, rfl, rfl, rfl⟩ (s0 b).x.k rfl k1 k2 hff.1 ho
  refine ⟨hrt, ?_, g4, g5⟩
  have e0 : St.ok (b, false) := hb
  obtain ⟨a1, a2⟩ := nx_inv (nx_ok e0 1) 4 g0
  obtain ⟨b1, b2⟩ := nx_inv e0 1 a1
  have hv := vl_lt e0 1
  rw [be_one _ hv] at b2
  have e2 : b = vl (b, false) 1 :: (Pk.be 4 (vl (nx (b, false) 1) 4) ++ (s0 b).s.1) := by
    have : (nx (b, false) 1).1 = Pk.be 4 (vl (nx (b, false) 1) 4) ++ (s0 b).s.1 := a2
    rw [← this]
    exact b2
  have e3 : (fin b).s.1 = [] := hff.2
  have g3' : (s0 b).s.1 = (parts (s0 b).x.k).flatMap ((fin b).x.part (fin b).rows (fin b).gone) ++ (fin b).s.1 := g3
  rw [e3, List.append_nil] at g3'
  unfold V.bytes
  have gk : (fin b).x.k = vl (b, false) 1 := g1
  have gi : (fin b).x.id = vl (nx (b, false) 1) 4 := g2
  rw [gi, gk]
  have : (s0 b).x.k = vl (b, false) 1 := rfl
  rw [this] at g3'
  rw [← g3']
  exact e2.symm
end Rp
end Go.Proofs.Ytbdalpfpkofmlaa
