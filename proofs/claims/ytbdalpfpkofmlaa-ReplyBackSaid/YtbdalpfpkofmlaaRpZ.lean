/- Layer 8's plain mathematics: what is packed is parsed as it was, and what is parsed is packed as the same bytes. -/
import Derived.Test.YtbdalpfpkofmlaaRpTe
import Derived.Test.YtbdalpfpkofmlaaRpU
namespace Go.Proofs.Ytbdalpfpkofmlaa
open Go.ChangeShapes Go.WideShapes Go.ChangeAt Go.RowKit
namespace Rp
theorem be_num8 (l : List Nat) (h : ∀ x ∈ l, x < 256) : Pk.be l.length (Pk.num l) = l := by
  induction l with
  | nil => rfl
  | cons x t ih =>
    have hx := h x (by simp)
    have ht := Pk.num_lt t (fun y hy => h y (by simp [hy]))
    have e := ih (fun y hy => h y (by simp [hy]))
    rw [Pk.num_cons, List.length_cons, Pk.be]
    have e1 : (x * 256 ^ t.length + Pk.num t) / 256 ^ t.length = x := by
      rw [Nat.mul_comm, Nat.mul_add_div (Nat.pow_pos (by omega)), Nat.div_eq_of_lt ht]; rfl
    rw [e1, Nat.mod_eq_of_lt hx]
    congr 1
    rw [← Pk.be_mod t.length t.length _ (Nat.le_refl _), Nat.mul_comm, Nat.mul_add_mod, Nat.mod_eq_of_lt ht]
    exact e
theorem nums_textOf8 {l : List Nat} (h : ∀ x ∈ l, x < 256) : nums (textOf l) = l := by
  have : ∀ k : List Nat, (∀ x ∈ k, x < 256) → (k.map UInt8.ofNat).map UInt8.toNat = k := by
    intro k
    induction k with
    | nil => intro _; rfl
    | cons a t ih =>
      intro hk
      rw [List.map_cons, List.map_cons, ih (fun x hx => hk x (by simp [hx])), UInt8.toNat_ofNat_of_lt' (hk a (by simp))]
  exact this l h
theorem textOf_nums8 (s : ByteArray) : textOf (nums s) = s := by
  have h : ∀ l : List UInt8, (l.map UInt8.toNat).map UInt8.ofNat = l := by
    intro l
    induction l with
    | nil => rfl
    | cons a t ih => rw [List.map_cons, List.map_cons, ih, UInt8.ofNat_toNat]
  apply ByteArray.ext
  show ((s.data.toList.map UInt8.toNat).map UInt8.ofNat).toArray = s.data
  rw [h]
theorem sg_u {x : Int} (h : i64ok x) : sg (u x) = x := by
  unfold i64ok at h
  unfold sg
  rw [← u_eq]
  simp only [IntKind.wrap, IntKind.bits, IntKind.signed]
  simp
  split <;> omega
theorem u_sg {m : Nat} (h : m < 18446744073709551616) : u (sg m) = m := by
  have e : (sg m) % 18446744073709551616 = (m : Int) := by
    unfold sg
    simp only [IntKind.wrap, IntKind.bits, IntKind.signed]
    simp
    split <;> omega
  unfold u
  rw [e]
  rfl
/-- Numbers and texts, at the beginning of what is left. -/
theorem nx_at (k v : Nat) (r : List Nat) : nx (Pk.be k v ++ r, false) k = (r, false) := by
  have h1 := Pk.left_at (Pk.be k v) r
  have h2 := Pk.fails_at (Pk.be k v) r
  rw [Pk.be_len] at h1 h2
  unfold nx
  dsimp only
  rw [h1, h2]
theorem vl_at (k v : Nat) (r : List Nat) (h : v < 256 ^ k) : vl (Pk.be k v ++ r, false) k = v := by
  have h1 := Pk.taken_at (Pk.be k v) r
  rw [Pk.be_len] at h1
  unfold vl
  dsimp only
  rw [h1, Pk.num_be, Nat.mod_eq_of_lt h]
theorem nx_one (y : Nat) (r : List Nat) : nx (y :: r, false) 1 = (r, false) := by
  have h1 := Pk.left_at [y] r
  have h2 := Pk.fails_at [y] r
  unfold nx
  exact Prod.ext h1 h2
theorem vl_one (y : Nat) (r : List Nat) : vl (y :: r, false) 1 = y := by
  have h1 := Pk.taken_at [y] r
  unfold vl
  have e : Pk.taken false (y :: r) 1 = [y] := h1
  dsimp only
  rw [e]
  simp [Pk.num]
theorem tx_at (k : ByteArray) (r : List Nat) (h : k.size < 65536) : tx (Pk.tx (nums k) ++ r, false) = (r, false) ∧ tt (Pk.tx (nums k) ++ r, false) = k := by
  have hl : (nums k).length < 65536 := by rw [nums_len]; exact h
  constructor
  · exact Prod.ext (Pk.tleft_at _ _ hl) (Pk.tfails_at _ _ hl)
  · unfold tt
    dsimp only
    rw [Pk.ttaken_at _ _ hl, textOf_nums8]
def pnOk (p : Pn) : Prop := p.k.size < 65536 ∧ i64ok p.s ∧ i64ok p.e
def rwOk (r : Rw) : Prop := pnOk r.p ∧ aggOk r.a
theorem u_pow (x : Int) : u x < 256 ^ 8 := u_lt x
theorem tPane_at (p : Pn) (r : List Nat) (h : pnOk p) : tPane (pane p ++ r, false) = (p, (r, false)) := by
  have e : pane p ++ r = Pk.tx (nums p.k) ++ (Pk.be 8 (u p.s) ++ (Pk.be 8 (u p.e) ++ r)) := by simp [pane]
  rw [e]
  unfold tPane
  obtain ⟨h1, h2⟩ := tx_at p.k (Pk.be 8 (u p.s) ++ (Pk.be 8 (u p.e) ++ r)) h.1
  rw [h1, h2, nx_at, nx_at, vl_at _ _ _ (u_pow _), vl_at _ _ _ (u_pow _), sg_u h.2.1, sg_u h.2.2]
theorem tAgg_at (a : Ag.A) (r : List Nat) (h : aggOk a) : tAgg (agg a ++ r, false) = (a, (r, false)) := by
  have e : agg a ++ r = Pk.be 8 (u a.c) ++ (Pk.be 8 (u a.s) ++ (Pk.be 8 (u a.lo) ++ (Pk.be 8 (u a.hi) ++ r))) := by simp [agg]
  rw [e]
  unfold tAgg
  rw [nx_at, nx_at, nx_at, nx_at, vl_at _ _ _ (u_pow _), vl_at _ _ _ (u_pow _), vl_at _ _ _ (u_pow _), vl_at _ _ _ (u_pow _), sg_u h.1, sg_u h.2.1, sg_u h.2.2.1, sg_u h.2.2.2]
theorem tRow_at (q : Rw) (r : List Nat) (h : rwOk q) : tRow (row q ++ r, false) = (q, (r, false)) := by
  have e : row q ++ r = pane q.p ++ (agg q.a ++ r) := by simp [row]
  rw [e]
  unfold tRow
  rw [tPane_at _ _ h.1, tAgg_at _ _ h.2]
theorem tList_at {α : Type} (f : St → α × St) (g : α → List Nat) (l : List α) (r : List Nat) (h : ∀ a ∈ l, ∀ r, f (g a ++ r, false) = (a, (r, false))) : tList f l.length (l.flatMap g ++ r, false) = (l, (r, false)) := by
  induction l with
  | nil => rfl
  | cons a l ih =>
    rw [List.flatMap_cons, List.append_assoc, List.length_cons]
    have h1 := h a (List.mem_cons_self ..) (l.flatMap g ++ r)
    have h2 := ih (fun b hb => h b (List.mem_cons_of_mem _ hb))
    unfold tList
    rw [h1]
    dsimp only
    rw [h2]
/-- A part taken, of what it packs. -/
theorem step_code (σ : Sg) (v : Nat) (r : List Nat) (hs : σ.s = (Pk.be 2 v ++ r, false)) (h : v < 65536) : σ.step 0 = { σ with x := { σ.x with code := v }, s := (r, false) } := by
  unfold Sg.step
  rw [if_pos rfl, hs, nx_at, vl_at _ _ _ h]
theorem step_flag (σ : Sg) (l : Bool) (r : List Nat) (hs : σ.s = ([if l then 1 else 0] ++ r, false)) (ho : σ.odd = false) : σ.step 1 = { σ with x := { σ.x with last := l }, s := (r, false) } := by
  unfold Sg.step
  rw [if_neg (by decide), if_pos rfl, hs]
  show ({ σ with x := { σ.x with last := decide (vl ((if l then 1 else 0) :: r, false) 1 = 1) }, s := nx ((if l then 1 else 0) :: r, false) 1, odd := σ.odd || decide (1 < vl ((if l then 1 else 0) :: r, false) 1) } : Sg) = _
  rw [nx_one, vl_one, ho]
  obtain ⟨x, rows, gone, s, odd⟩ := σ
  dsimp only at ho
  subst ho
  cases l <;> rfl
theorem step_number (σ : Sg) (p v : Nat) (r : List Nat) (hs : σ.s = (Pk.be 8 v ++ r, false)) (h : v < 18446744073709551616) (h1 : 2 ≤ p) (h2 : p ≤ 7) : σ.step p = { σ with x := σ.x.num p v, s := (r, false) } := by
  rw [σ.step_num p h1 h2, hs, nx_at, vl_at _ _ _ h]
theorem step_rows (σ : Sg) (n : Nat) (rows : List Rw) (r : List Nat) (hs : σ.s = (n % 256 :: rows.flatMap row ++ r, false)) (hn : rows.length = n) (h : n < 256) (hr : ∀ q ∈ rows, rwOk q) : σ.step 8 = { σ with x := { σ.x with n := n }, rows := rows, s := (r, false) } := by
  unfold Sg.step
  rw [if_neg (by decide), if_neg (by decide), if_pos rfl, hs]
  have e : (n % 256 :: rows.flatMap row ++ r, false) = ((n :: (rows.flatMap row ++ r), false) : St) := by rw [Nat.mod_eq_of_lt h]; rfl
  rw [e, nx_one, vl_one, ← hn, tList_at tRow row rows r (fun a ha r => tRow_at a r (hr a ha))]
theorem step_gone (σ : Sg) (n : Nat) (gone : List Pn) (r : List Nat) (hs : σ.s = (n % 256 :: gone.flatMap pane ++ r, false)) (hn : gone.length = n) (h : n < 256) (hr : ∀ q ∈ gone, pnOk q) : σ.step 9 = { σ with x := { σ.x with m := n }, gone := gone, s := (r, false) } := by
  unfold Sg.step
  rw [if_neg (by decide), if_neg (by decide), if_neg (by decide), if_pos rfl, hs]
  have e : (n % 256 :: gone.flatMap pane ++ r, false) = ((n :: (gone.flatMap pane ++ r), false) : St) := by rw [Nat.mod_eq_of_lt h]; rfl
  rw [e, nx_one, vl_one, ← hn, tList_at tPane pane gone r (fun a ha r => tPane_at a r (hr a ha))]
theorem s0_at (k id : Nat) (r : List Nat) (hi : id < 4294967296) : s0 (k :: Pk.be 4 id ++ r) = ⟨⟨k, id, 0, false, 0, 0, 0, 0, 0, 0, none, 0, 0, none, 0, 0⟩, [], [], (r, false), false⟩ := by
  unfold s0
  have e : (k :: Pk.be 4 id ++ r, false) = ((k :: (Pk.be 4 id ++ r), false) : St) := rfl
  rw [e, nx_one, vl_one, nx_at, vl_at _ _ _ hi]
theorem bare_is {x : V} (h : x.bare = true) : x.code = 0 ∧ x.last = false ∧ x.ep = 0 ∧ x.fl = 0 ∧ x.un = 0 ∧ x.le = 0 ∧ x.st = 0 ∧ x.ti = 0 ∧ x.n = 0 ∧ x.m = 0 := by
  unfold V.bare at h
  simp only [Bool.and_eq_true, beq_iff_eq, Bool.not_eq_true'] at h
  obtain ⟨⟨⟨⟨⟨⟨⟨⟨⟨h1, h2⟩, h3⟩, h4⟩, h5⟩, h6⟩, h7⟩, h8⟩, h9⟩, h10⟩ := h
  exact ⟨h1, h2, h3, h4, h5, h6, h7, h8, h9, h10⟩
set_option maxHeartbeats 1000000 in
/-- WHAT IS PACKED IS PARSED AS IT WAS. -/
theorem back (x : V) (rows : List Rw) (gone : List Pn) (h : x.right rows gone = true) (ok : x.ok) (hr : rows.length = x.n) (hg : gone.length = x.m) (hro : ∀ q ∈ rows, rwOk q) (hgo : ∀ q ∈ gone, pnOk q) :
    tag (x.bytes rows gone) = false ∧ fin (x.bytes rows gone) = ⟨x.at_ none 0 none 0, rows, gone, ([], false), false⟩ := by
  obtain ⟨hkind, -, -, hnm⟩ := right_keys h
  obtain ⟨k1, k2, -, -⟩ := of_decide_eq_true hkind
  have hbare : ((parts x.k).foldl V.blank x).bare = true := by
    unfold V.right at h
    simp only [Bool.and_eq_true] at h
    exact h.2
  obtain ⟨b1, b2, b3, b4, b5, b6, b7, b8, b9, b10⟩ := bare_is hbare
  have ht : tag (x.bytes rows gone) = false := by
    show (!isK x.k) = false
    rw [Bool.not_eq_false']
    exact decide_eq_true ⟨k1, k2⟩
  refine ⟨ht, ?_⟩
  have e0 : s0 (x.bytes rows gone) = ⟨⟨x.k, x.id, 0, false, 0, 0, 0, 0, 0, 0, none, 0, 0, none, 0, 0⟩, [], [], ((parts x.k).flatMap (x.part rows gone), false), false⟩ := s0_at x.k x.id _ ok.2.1
  unfold fin
  rw [e0]
  dsimp only
  obtain ⟨k, id, code, last, ep, fl, un, le, st, ti, A, n, c, G, m, d⟩ := x
  obtain ⟨o0, o1, o2, o3, o4, o5, o6, o7, o8⟩ := ok
  dsimp only at *
  have hk : k = 1 ∨ k = 2 ∨ k = 3 ∨ k = 4 ∨ k = 5 ∨ k = 6 ∨ k = 7 := by omega
  have ln : n < 256 := by omega
  have lm : m < 256 := by omega
  clear h hkind hbare ht e0 k1 k2 hnm
  rcases hk with rfl | rfl | rfl | rfl | rfl | rfl | rfl
  · change code = 0 at b1; change fl = 0 at b4; change un = 0 at b5; change le = 0 at b6; change st = 0 at b7; change ti = 0 at b8; change m = 0 at b10
    subst b1 b4 b5 b6 b7 b8 b10
    obtain rfl : gone = [] := List.eq_nil_of_length_eq_zero hg
    rw [show pparts 1 = [2, 1, 8] from rfl, show parts 1 = [101, 108, 114] from rfl]
    simp only [List.foldl_cons, List.foldl_nil, List.flatMap_cons, List.flatMap_nil]
    rw [show V.part (⟨1, id, 0, last, ep, 0, 0, 0, 0, 0, A, n, c, G, 0, d⟩ : V) rows [] 101 = Pk.be 8 ep from rfl]
    rw [show V.part (⟨1, id, 0, last, ep, 0, 0, 0, 0, 0, A, n, c, G, 0, d⟩ : V) rows [] 108 = [if last then 1 else 0] from rfl]
    rw [show V.part (⟨1, id, 0, last, ep, 0, 0, 0, 0, 0, A, n, c, G, 0, d⟩ : V) rows [] 114 = (n % 256 :: rows.flatMap row) from rfl]
    rw [step_number ⟨(⟨1, id, 0, false, 0, 0, 0, 0, 0, 0, none, 0, 0, none, 0, 0⟩ : V), [], [], ((Pk.be 8 ep ++ ([if last then 1 else 0] ++ ((n % 256 :: rows.flatMap row) ++ []))), false), false⟩ 2 ep ([if last then 1 else 0] ++ ((n % 256 :: rows.flatMap row) ++ [])) rfl o3 (by omega) (by omega)]
    dsimp only
    rw [step_flag ⟨((⟨1, id, 0, false, 0, 0, 0, 0, 0, 0, none, 0, 0, none, 0, 0⟩ : V).num 2 ep), [], [], (([if last then 1 else 0] ++ ((n % 256 :: rows.flatMap row) ++ [])), false), false⟩ last ((n % 256 :: rows.flatMap row) ++ []) rfl rfl]
    dsimp only
    rw [step_rows ⟨({ ((⟨1, id, 0, false, 0, 0, 0, 0, 0, 0, none, 0, 0, none, 0, 0⟩ : V).num 2 ep) with last := last } : V), [], [], (((n % 256 :: rows.flatMap row) ++ []), false), false⟩ n rows [] rfl hr ln hro]
    dsimp only
    rfl
  · change code = 0 at b1; change last = false at b2; change fl = 0 at b4; change st = 0 at b7; change ti = 0 at b8; change n = 0 at b9; change m = 0 at b10
    subst b1 b2 b4 b7 b8 b9 b10
    obtain rfl : gone = [] := List.eq_nil_of_length_eq_zero hg
    obtain rfl : rows = [] := List.eq_nil_of_length_eq_zero hr
    rw [show pparts 2 = [5, 2, 4] from rfl, show parts 2 = [76, 101, 117] from rfl]
    simp only [List.foldl_cons, List.foldl_nil, List.flatMap_cons, List.flatMap_nil]
    rw [show V.part (⟨2, id, 0, false, ep, 0, un, le, 0, 0, A, 0, c, G, 0, d⟩ : V) [] [] 76 = Pk.be 8 le from rfl]
    rw [show V.part (⟨2, id, 0, false, ep, 0, un, le, 0, 0, A, 0, c, G, 0, d⟩ : V) [] [] 101 = Pk.be 8 ep from rfl]
    rw [show V.part (⟨2, id, 0, false, ep, 0, un, le, 0, 0, A, 0, c, G, 0, d⟩ : V) [] [] 117 = Pk.be 8 un from rfl]
    rw [step_number ⟨(⟨2, id, 0, false, 0, 0, 0, 0, 0, 0, none, 0, 0, none, 0, 0⟩ : V), [], [], ((Pk.be 8 le ++ (Pk.be 8 ep ++ (Pk.be 8 un ++ []))), false), false⟩ 5 le (Pk.be 8 ep ++ (Pk.be 8 un ++ [])) rfl o6 (by omega) (by omega)]
    dsimp only
    rw [step_number ⟨((⟨2, id, 0, false, 0, 0, 0, 0, 0, 0, none, 0, 0, none, 0, 0⟩ : V).num 5 le), [], [], ((Pk.be 8 ep ++ (Pk.be 8 un ++ [])), false), false⟩ 2 ep (Pk.be 8 un ++ []) rfl o3 (by omega) (by omega)]
    dsimp only
    rw [step_number ⟨(((⟨2, id, 0, false, 0, 0, 0, 0, 0, 0, none, 0, 0, none, 0, 0⟩ : V).num 5 le).num 2 ep), [], [], ((Pk.be 8 un ++ []), false), false⟩ 4 un [] rfl o5 (by omega) (by omega)]
    dsimp only
    rfl
  · change code = 0 at b1; change last = false at b2; change fl = 0 at b4; change st = 0 at b7; change ti = 0 at b8; change n = 0 at b9; change m = 0 at b10
    subst b1 b2 b4 b7 b8 b9 b10
    obtain rfl : gone = [] := List.eq_nil_of_length_eq_zero hg
    obtain rfl : rows = [] := List.eq_nil_of_length_eq_zero hr
    rw [show pparts 3 = [5, 2, 4] from rfl, show parts 3 = [76, 101, 117] from rfl]
    simp only [List.foldl_cons, List.foldl_nil, List.flatMap_cons, List.flatMap_nil]
    rw [show V.part (⟨3, id, 0, false, ep, 0, un, le, 0, 0, A, 0, c, G, 0, d⟩ : V) [] [] 76 = Pk.be 8 le from rfl]
    rw [show V.part (⟨3, id, 0, false, ep, 0, un, le, 0, 0, A, 0, c, G, 0, d⟩ : V) [] [] 101 = Pk.be 8 ep from rfl]
    rw [show V.part (⟨3, id, 0, false, ep, 0, un, le, 0, 0, A, 0, c, G, 0, d⟩ : V) [] [] 117 = Pk.be 8 un from rfl]
    rw [step_number ⟨(⟨3, id, 0, false, 0, 0, 0, 0, 0, 0, none, 0, 0, none, 0, 0⟩ : V), [], [], ((Pk.be 8 le ++ (Pk.be 8 ep ++ (Pk.be 8 un ++ []))), false), false⟩ 5 le (Pk.be 8 ep ++ (Pk.be 8 un ++ [])) rfl o6 (by omega) (by omega)]
    dsimp only
    rw [step_number ⟨((⟨3, id, 0, false, 0, 0, 0, 0, 0, 0, none, 0, 0, none, 0, 0⟩ : V).num 5 le), [], [], ((Pk.be 8 ep ++ (Pk.be 8 un ++ [])), false), false⟩ 2 ep (Pk.be 8 un ++ []) rfl o3 (by omega) (by omega)]
    dsimp only
    rw [step_number ⟨(((⟨3, id, 0, false, 0, 0, 0, 0, 0, 0, none, 0, 0, none, 0, 0⟩ : V).num 5 le).num 2 ep), [], [], ((Pk.be 8 un ++ []), false), false⟩ 4 un [] rfl o5 (by omega) (by omega)]
    dsimp only
    rfl
  · change code = 0 at b1; change fl = 0 at b4; change un = 0 at b5; change le = 0 at b6; change st = 0 at b7; change ti = 0 at b8
    subst b1 b4 b5 b6 b7 b8
    rw [show pparts 4 = [2, 1, 8, 9] from rfl, show parts 4 = [101, 108, 114, 103] from rfl]
    simp only [List.foldl_cons, List.foldl_nil, List.flatMap_cons, List.flatMap_nil]
    rw [show V.part (⟨4, id, 0, last, ep, 0, 0, 0, 0, 0, A, n, c, G, m, d⟩ : V) rows gone 101 = Pk.be 8 ep from rfl]
    rw [show V.part (⟨4, id, 0, last, ep, 0, 0, 0, 0, 0, A, n, c, G, m, d⟩ : V) rows gone 108 = [if last then 1 else 0] from rfl]
    rw [show V.part (⟨4, id, 0, last, ep, 0, 0, 0, 0, 0, A, n, c, G, m, d⟩ : V) rows gone 114 = (n % 256 :: rows.flatMap row) from rfl]
    rw [show V.part (⟨4, id, 0, last, ep, 0, 0, 0, 0, 0, A, n, c, G, m, d⟩ : V) rows gone 103 = (m % 256 :: gone.flatMap pane) from rfl]
    rw [step_number ⟨(⟨4, id, 0, false, 0, 0, 0, 0, 0, 0, none, 0, 0, none, 0, 0⟩ : V), [], [], ((Pk.be 8 ep ++ ([if last then 1 else 0] ++ ((n % 256 :: rows.flatMap row) ++ ((m % 256 :: gone.flatMap pane) ++ [])))), false), false⟩ 2 ep ([if last then 1 else 0] ++ ((n % 256 :: rows.flatMap row) ++ ((m % 256 :: gone.flatMap pane) ++ []))) rfl o3 (by omega) (by omega)]
    dsimp only
    rw [step_flag ⟨((⟨4, id, 0, false, 0, 0, 0, 0, 0, 0, none, 0, 0, none, 0, 0⟩ : V).num 2 ep), [], [], (([if last then 1 else 0] ++ ((n % 256 :: rows.flatMap row) ++ ((m % 256 :: gone.flatMap pane) ++ []))), false), false⟩ last ((n % 256 :: rows.flatMap row) ++ ((m % 256 :: gone.flatMap pane) ++ [])) rfl rfl]
    dsimp only
    rw [step_rows ⟨({ ((⟨4, id, 0, false, 0, 0, 0, 0, 0, 0, none, 0, 0, none, 0, 0⟩ : V).num 2 ep) with last := last } : V), [], [], (((n % 256 :: rows.flatMap row) ++ ((m % 256 :: gone.flatMap pane) ++ [])), false), false⟩ n rows ((m % 256 :: gone.flatMap pane) ++ []) rfl hr ln hro]
    dsimp only
    rw [step_gone ⟨({ ({ ((⟨4, id, 0, false, 0, 0, 0, 0, 0, 0, none, 0, 0, none, 0, 0⟩ : V).num 2 ep) with last := last } : V) with n := n } : V), rows, [], (((m % 256 :: gone.flatMap pane) ++ []), false), false⟩ m gone [] rfl hg lm hgo]
    dsimp only
    rfl
  · change code = 0 at b1; change last = false at b2; change un = 0 at b5; change le = 0 at b6; change n = 0 at b9; change m = 0 at b10
    subst b1 b2 b5 b6 b9 b10
    obtain rfl : gone = [] := List.eq_nil_of_length_eq_zero hg
    obtain rfl : rows = [] := List.eq_nil_of_length_eq_zero hr
    rw [show pparts 5 = [2, 3, 6, 7] from rfl, show parts 5 = [101, 102, 115, 116] from rfl]
    simp only [List.foldl_cons, List.foldl_nil, List.flatMap_cons, List.flatMap_nil]
    rw [show V.part (⟨5, id, 0, false, ep, fl, 0, 0, st, ti, A, 0, c, G, 0, d⟩ : V) [] [] 101 = Pk.be 8 ep from rfl]
    rw [show V.part (⟨5, id, 0, false, ep, fl, 0, 0, st, ti, A, 0, c, G, 0, d⟩ : V) [] [] 102 = Pk.be 8 fl from rfl]
    rw [show V.part (⟨5, id, 0, false, ep, fl, 0, 0, st, ti, A, 0, c, G, 0, d⟩ : V) [] [] 115 = Pk.be 8 st from rfl]
    rw [show V.part (⟨5, id, 0, false, ep, fl, 0, 0, st, ti, A, 0, c, G, 0, d⟩ : V) [] [] 116 = Pk.be 8 ti from rfl]
    rw [step_number ⟨(⟨5, id, 0, false, 0, 0, 0, 0, 0, 0, none, 0, 0, none, 0, 0⟩ : V), [], [], ((Pk.be 8 ep ++ (Pk.be 8 fl ++ (Pk.be 8 st ++ (Pk.be 8 ti ++ [])))), false), false⟩ 2 ep (Pk.be 8 fl ++ (Pk.be 8 st ++ (Pk.be 8 ti ++ []))) rfl o3 (by omega) (by omega)]
    dsimp only
    rw [step_number ⟨((⟨5, id, 0, false, 0, 0, 0, 0, 0, 0, none, 0, 0, none, 0, 0⟩ : V).num 2 ep), [], [], ((Pk.be 8 fl ++ (Pk.be 8 st ++ (Pk.be 8 ti ++ []))), false), false⟩ 3 fl (Pk.be 8 st ++ (Pk.be 8 ti ++ [])) rfl o4 (by omega) (by omega)]
    dsimp only
    rw [step_number ⟨(((⟨5, id, 0, false, 0, 0, 0, 0, 0, 0, none, 0, 0, none, 0, 0⟩ : V).num 2 ep).num 3 fl), [], [], ((Pk.be 8 st ++ (Pk.be 8 ti ++ [])), false), false⟩ 6 st (Pk.be 8 ti ++ []) rfl o7 (by omega) (by omega)]
    dsimp only
    rw [step_number ⟨((((⟨5, id, 0, false, 0, 0, 0, 0, 0, 0, none, 0, 0, none, 0, 0⟩ : V).num 2 ep).num 3 fl).num 6 st), [], [], ((Pk.be 8 ti ++ []), false), false⟩ 7 ti [] rfl o8 (by omega) (by omega)]
    dsimp only
    rfl
  · change code = 0 at b1; change last = false at b2; change ep = 0 at b3; change fl = 0 at b4; change un = 0 at b5; change le = 0 at b6; change st = 0 at b7; change ti = 0 at b8; change n = 0 at b9; change m = 0 at b10
    subst b1 b2 b3 b4 b5 b6 b7 b8 b9 b10
    obtain rfl : gone = [] := List.eq_nil_of_length_eq_zero hg
    obtain rfl : rows = [] := List.eq_nil_of_length_eq_zero hr
    rw [show pparts 6 = [] from rfl, show parts 6 = [] from rfl]
    simp only [List.foldl_nil, List.flatMap_nil]
    rfl
  · change last = false at b2; change ep = 0 at b3; change un = 0 at b5; change le = 0 at b6; change st = 0 at b7; change ti = 0 at b8; change n = 0 at b9; change m = 0 at b10
    subst b2 b3 b5 b6 b7 b8 b9 b10
    obtain rfl : gone = [] := List.eq_nil_of_length_eq_zero hg
    obtain rfl : rows = [] := List.eq_nil_of_length_eq_zero hr
    rw [show pparts 7 = [0, 3] from rfl, show parts 7 = [99, 102] from rfl]
    simp only [List.foldl_cons, List.foldl_nil, List.flatMap_cons, List.flatMap_nil]
    rw [show V.part (⟨7, id, code, false, 0, fl, 0, 0, 0, 0, A, 0, c, G, 0, d⟩ : V) [] [] 99 = Pk.be 2 code from rfl]
    rw [show V.part (⟨7, id, code, false, 0, fl, 0, 0, 0, 0, A, 0, c, G, 0, d⟩ : V) [] [] 102 = Pk.be 8 fl from rfl]
    rw [step_code ⟨(⟨7, id, 0, false, 0, 0, 0, 0, 0, 0, none, 0, 0, none, 0, 0⟩ : V), [], [], ((Pk.be 2 code ++ (Pk.be 8 fl ++ [])), false), false⟩ code (Pk.be 8 fl ++ []) rfl o2]
    dsimp only
    rw [step_number ⟨{ (⟨7, id, 0, false, 0, 0, 0, 0, 0, 0, none, 0, 0, none, 0, 0⟩ : V) with code := code }, [], [], ((Pk.be 8 fl ++ []), false), false⟩ 3 fl [] rfl o4 (by omega) (by omega)]
    dsimp only
    rfl
end Rp
end Go.Proofs.Ytbdalpfpkofmlaa
