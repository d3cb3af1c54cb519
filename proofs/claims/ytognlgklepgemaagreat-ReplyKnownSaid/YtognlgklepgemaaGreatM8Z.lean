/- Layer 8's statement ReplyBack. -/
import Derived.Test.YtognlgklepgemaaGreatM8T
import Derived.Test.YtognlgklepgemaaGreatRpU
import Derived.Test.YtognlgklepgemaaGreatLaw8F
import Derived.Test.YtognlgklepgemaaGreatM8P
namespace Go.Proofs.YtognlgklepgemaaGreat
open Go.ChangeShapes Go.WideShapes Go.ChangeAt Go.RowKit
namespace Rp
theorem be_num8 (l : List Nat) (h : ∀ x ∈ l, x < 256) : Pk.be l.length (Pk.num l) = l := by
  induction l with
  | nil => rfl
  | cons x t ih =>
    have hx := h x (by simp)
    have ht := Pk.num_lt t (fun y hy => h y (by simp [hy]))
    have e := ih (fun y hy => h y (by simp [hy]))
    rw [Pk.num_cons, List.length_cons, Pk.be]
    have e1 : (x * 256 ^ t.length + Pk.num t) / 256 ^ t.length = x := by
      rw [Nat.mul_comm, Nat.mul_add_div (Nat.pow_pos (by omega)), Nat.div_eq_of_lt ht]; rfl
    rw [e1, Nat.mod_eq_of_lt hx]
    congr 1
    rw [← Pk.be_mod t.length t.length _ (Nat.le_refl _), Nat.mul_comm, Nat.mul_add_mod, Nat.mod_eq_of_lt ht]
    exact e
theorem nums_textOf8 {l : List Nat} (h : ∀ x ∈ l, x < 256) : nums (textOf l) = l := by
  have : ∀ k : List Nat, (∀ x ∈ k, x < 256) → (k.map UInt8.ofNat).map UInt8.toNat = k := by
    intro k
    induction k with
    | nil => intro _; rfl
    | cons a t ih =>
      intro hk
      rw [List.map_cons, List.map_cons, ih (fun x hx => hk x (by simp [hx])), UInt8.toNat_ofNat_of_lt' (hk a (by simp))]
  exact this l h
theorem textOf_nums8 (s : ByteArray) : textOf (nums s) = s := by
  have h : ∀ l : List UInt8, (l.map UInt8.toNat).map UInt8.ofNat = l := by
    intro l
    induction l with
    | nil => rfl
    | cons a t ih => rw [List.map_cons, List.map_cons, ih, UInt8.ofNat_toNat]
  apply ByteArray.ext
  show ((s.data.toList.map UInt8.toNat).map UInt8.ofNat).toArray = s.data
  rw [h]
theorem sg_u {x : Int} (h : i64ok x) : sg (u x) = x := by
  unfold i64ok at h
  unfold sg
  rw [← u_eq]
  simp only [IntKind.wrap, IntKind.bits, IntKind.signed]
  simp
  split <;> omega
theorem u_sg {m : Nat} (h : m < 18446744073709551616) : u (sg m) = m := by
  have e : (sg m) % 18446744073709551616 = (m : Int) := by
    unfold sg
    simp only [IntKind.wrap, IntKind.bits, IntKind.signed]
    simp
    split <;> omega
  unfold u
  rw [e]
  rfl
/-- Numbers and texts, at the beginning of what is left. -/
theorem nx_at (k v : Nat) (r : List Nat) : nx (Pk.be k v ++ r, false) k = (r, false) := by
  have h1 := Pk.left_at (Pk.be k v) r
  have h2 := Pk.fails_at (Pk.be k v) r
  rw [Pk.be_len] at h1 h2
  unfold nx
  dsimp only
  rw [h1, h2]
theorem vl_at (k v : Nat) (r : List Nat) (h : v < 256 ^ k) : vl (Pk.be k v ++ r, false) k = v := by
  have h1 := Pk.taken_at (Pk.be k v) r
  rw [Pk.be_len] at h1
  unfold vl
  dsimp only
  rw [h1, Pk.num_be, Nat.mod_eq_of_lt h]
theorem nx_one (y : Nat) (r : List Nat) : nx (y :: r, false) 1 = (r, false) := by
  have h1 := Pk.left_at [y] r
  have h2 := Pk.fails_at [y] r
  unfold nx
  exact Prod.ext h1 h2
theorem vl_one (y : Nat) (r : List Nat) : vl (y :: r, false) 1 = y := by
  have h1 := Pk.taken_at [y] r
  unfold vl
  have e : Pk.taken false (y :: r) 1 = [y] := h1
  dsimp only
  rw [e]
  simp [Pk.num]
theorem tx_at (k : ByteArray) (r : List Nat) (h : k.size < 65536) : tx (Pk.tx (nums k) ++ r, false) = (r, false) ∧ tt (Pk.tx (nums k) ++ r, false) = k := by
  have hl : (nums k).length < 65536 := by rw [nums_len]; exact h
  constructor
  · exact Prod.ext (Pk.tleft_at _ _ hl) (Pk.tfails_at _ _ hl)
  · unfold tt
    dsimp only
    rw [Pk.ttaken_at _ _ hl, textOf_nums8]
def pnOk (p : Pn) : Prop := p.k.size < 65536 ∧ i64ok p.s ∧ i64ok p.e
def rwOk (r : Rw) : Prop := pnOk r.p ∧ aggOk r.a
theorem u_pow (x : Int) : u x < 256 ^ 8 := u_lt x
theorem tPane_at (p : Pn) (r : List Nat) (h : pnOk p) : tPane (pane p ++ r, false) = (p, (r, false)) := by
  have e : pane p ++ r = Pk.tx (nums p.k) ++ (Pk.be 8 (u p.s) ++ (Pk.be 8 (u p.e) ++ r)) := by simp [pane]
  rw [e]
  unfold tPane
  obtain ⟨h1, h2⟩ := tx_at p.k (Pk.be 8 (u p.s) ++ (Pk.be 8 (u p.e) ++ r)) h.1
  rw [h1, h2, nx_at, nx_at, vl_at _ _ _ (u_pow _), vl_at _ _ _ (u_pow _), sg_u h.2.1, sg_u h.2.2]
theorem tAgg_at (a : Ag.A) (r : List Nat) (h : aggOk a) : tAgg (agg a ++ r, false) = (a, (r, false)) := by
  have e : agg a ++ r = Pk.be 8 (u a.c) ++ (Pk.be 8 (u a.s) ++ (Pk.be 8 (u a.lo) ++ (Pk.be 8 (u a.hi) ++ r))) := by simp [agg]
  rw [e]
  unfold tAgg
  rw [nx_at, nx_at, nx_at, nx_at, vl_at _ _ _ (u_pow _), vl_at _ _ _ (u_pow _), vl_at _ _ _ (u_pow _), vl_at _ _ _ (u_pow _), sg_u h.1, sg_u h.2.1, sg_u h.2.2.1, sg_u h.2.2.2]
theorem tRow_at (q : Rw) (r : List Nat) (h : rwOk q) : tRow (row q ++ r, false) = (q, (r, false)) := by
  have e : row q ++ r = pane q.p ++ (agg q.a ++ r) := by simp [row]
  rw [e]
  unfold tRow
  rw [tPane_at _ _ h.1, tAgg_at _ _ h.2]
theorem tList_at {α : Type} (f : St → α × St) (g : α → List Nat) (l : List α) (r : List Nat) (h : ∀ a ∈ l, ∀ r, f (g a ++ r, false) = (a, (r, false))) : tList f l.length (l.flatMap g ++ r, false) = (l, (r, false)) := by
  induction l with
  | nil => rfl
  | cons a l ih =>
    rw [List.flatMap_cons, List.append_assoc, List.length_cons]
    have h1 := h a (List.mem_cons_self ..) (l.flatMap g ++ r)
    have h2 := ih (fun b hb => h b (List.mem_cons_of_mem _ hb))
    unfold tList
    rw [h1]
    dsimp only
    rw [h2]
/-- A part taken, of what it packs. -/
theorem step_code (σ : Sg) (v : Nat) (r : List Nat) (hs : σ.s = (Pk.be 2 v ++ r, false)) (h : v < 65536) : σ.step 0 = { σ with x := { σ.x with code := v }, s := (r, false) } := by
  unfold Sg.step
  rw [if_pos rfl, hs, nx_at, vl_at _ _ _ h]
theorem step_flag (σ : Sg) (l : Bool) (r : List Nat) (hs : σ.s = ([if l then 1 else 0] ++ r, false)) (ho : σ.odd = false) : σ.step 1 = { σ with x := { σ.x with last := l }, s := (r, false) } := by
  unfold Sg.step
  rw [if_neg (by decide), if_pos rfl, hs]
  show ({ σ with x := { σ.x with last := decide (vl ((if l then 1 else 0) :: r, false) 1 = 1) }, s := nx ((if l then 1 else 0) :: r, false) 1, odd := σ.odd || decide (1 < vl ((if l then 1 else 0) :: r, false) 1) } : Sg) = _
  rw [nx_one, vl_one, ho]
  obtain ⟨x, rows, gone, s, odd⟩ := σ
  dsimp only at ho
  subst ho
  cases l <;> rfl
theorem step_number (σ : Sg) (p v : Nat) (r : List Nat) (hs : σ.s = (Pk.be 8 v ++ r, false)) (h : v < 18446744073709551616) (h1 : 2 ≤ p) (h2 : p ≤ 7) : σ.step p = { σ with x := σ.x.num p v, s := (r, false) } := by
  rw [σ.step_num p h1 h2, hs, nx_at, vl_at _ _ _ h]
theorem step_rows (σ : Sg) (n : Nat) (rows : List Rw) (r : List Nat) (hs : σ.s = (n % 256 :: rows.flatMap row ++ r, false)) (hn : rows.length = n) (h : n < 256) (hr : ∀ q ∈ rows, rwOk q) : σ.step 8 = { σ with x := { σ.x with n := n }, rows := rows, s := (r, false) } := by
  unfold Sg.step
  rw [if_neg (by decide), if_neg (by decide), if_pos rfl, hs]
  have e : (n % 256 :: rows.flatMap row ++ r, false) = ((n :: (rows.flatMap row ++ r), false) : St) := by rw [Nat.mod_eq_of_lt h]; rfl
  rw [e, nx_one, vl_one, ← hn, tList_at tRow row rows r (fun a ha r => tRow_at a r (hr a ha))]
theorem step_gone (σ : Sg) (n : Nat) (gone : List Pn) (r : List Nat) (hs : σ.s = (n % 256 :: gone.flatMap pane ++ r, false)) (hn : gone.length = n) (h : n < 256) (hr : ∀ q ∈ gone, pnOk q) : σ.step 9 = { σ with x := { σ.x with m := n }, gone := gone, s := (r, false) } := by
  unfold Sg.step
  rw [if_neg (by decide), if_neg (by decide), if_neg (by decide), if_pos rfl, hs]
  have e : (n % 256 :: gone.flatMap pane ++ r, false) = ((n :: (gone.flatMap pane ++ r), false) : St) := by rw [Nat.mod_eq_of_lt h]; rfl
  rw [e, nx_one, vl_one, ← hn, tList_at tPane pane gone r (fun a ha r => tPane_at a r (hr a ha))]
theorem s0_at (k id : Nat) (r : List Nat) (hi : id < 4294967296) : s0 (k :: Pk.be 4 id ++ r) = ⟨⟨k, id, 0, false, 0, 0, 0, 0, 0, 0, none, 0, 0, none, 0, 0⟩, [], [], (r, false), false⟩ := by
  unfold s0
  have e : (k :: Pk.be 4 id ++ r, false) = ((k :: (Pk.be 4 id ++ r), false) : St) := rfl
  rw [e, nx_one, vl_one, nx_at, vl_at _ _ _ hi]
theorem bare_is {x : V} (h : x.bare = true) : x.code = 0 ∧ x.last = false ∧ x.ep = 0 ∧ x.fl = 0 ∧ x.un = 0 ∧ x.le = 0 ∧ x.st = 0 ∧ x.ti = 0 ∧ x.n = 0 ∧ x.m = 0 := by
  unfold V.bare at h
  simp only [Bool.and_eq_true, beq_iff_eq, Bool.not_eq_true'] at h
  obtain ⟨⟨⟨⟨⟨⟨⟨⟨⟨h1, h2⟩, h3⟩, h4⟩, h5⟩, h6⟩, h7⟩, h8⟩, h9⟩, h10⟩ := h
  exact ⟨h1, h2, h3, h4, h5, h6, h7, h8, h9, h10⟩
set_option maxHeartbeats 1000000 in
/-- WHAT IS PACKED IS PARSED AS IT WAS. -/
theorem back (x : V) (rows : List Rw) (gone : List Pn) (h : x.right rows gone = true) (ok : x.ok) (hr : rows.length = x.n) (hg : gone.length = x.m) (hro : ∀ q ∈ rows, rwOk q) (hgo : ∀ q ∈ gone, pnOk q) :
    tag (x.bytes rows gone) = false ∧ fin (x.bytes rows gone) = ⟨x.at_ none 0 none 0, rows, gone, ([], false), false⟩ := by
  obtain ⟨hkind, -, -, hnm⟩ := right_keys h
  obtain ⟨k1, k2, -, -⟩ := of_decide_eq_true hkind
  have hbare : ((parts x.k).foldl V.blank x).bare = true := by
    unfold V.right at h
    simp only [Bool.and_eq_true] at h
    exact h.2
  obtain ⟨b1, b2, b3, b4, b5, b6, b7, b8, b9, b10⟩ := bare_is hbare
  have ht : tag (x.bytes rows gone) = false := by
    show (!isK x.k) = false
    rw [Bool.not_eq_false']
    exact decide_eq_true ⟨k1, k2⟩
  refine ⟨ht, ?_⟩
  have e0 : s0 (x.bytes rows gone) = ⟨⟨x.k, x.id, 0, false, 0, 0, 0, 0, 0, 0, none, 0, 0, none, 0, 0⟩, [], [], ((parts x.k).flatMap (x.part rows gone), false), false⟩ := s0_at x.k x.id _ ok.2.1
  unfold fin
  rw [e0]
  dsimp only
  obtain ⟨k, id, code, last, ep, fl, un, le, st, ti, A, n, c, G, m, d⟩ := x
  obtain ⟨o0, o1, o2, o3, o4, o5, o6, o7, o8⟩ := ok
  dsimp only at *
  have hk : k = 1 ∨ k = 2 ∨ k = 3 ∨ k = 4 ∨ k = 5 ∨ k = 6 ∨ k = 7 := by omega
  have ln : n < 256 := by omega
  have lm : m < 256 := by omega
  clear h hkind hbare ht e0 k1 k2 hnm
  rcases hk with rfl | rfl | rfl | rfl | rfl | rfl | rfl
  · change code = 0 at b1; change fl = 0 at b4; change un = 0 at b5; change le = 0 at b6; change st = 0 at b7; change ti = 0 at b8; change m = 0 at b10
    subst b1 b4 b5 b6 b7 b8 b10
    obtain rfl : gone = [] := List.eq_nil_of_length_eq_zero hg
    rw [show pparts 1 = [2, 1, 8] from rfl, show parts 1 = [101, 108, 114] from rfl]
    simp only [List.foldl_cons, List.foldl_nil, List.flatMap_cons, List.flatMap_nil]
    rw [show V.part (⟨1, id, 0, last, ep, 0, 0, 0, 0, 0, A, n, c, G, 0, d⟩ : V) rows [] 101 = Pk.be 8 ep from rfl]
    rw [show V.part (⟨1, id, 0, last, ep, 0, 0, 0, 0, 0, A, n, c, G, 0, d⟩ : V) rows [] 108 = [if last then 1 else 0] from rfl]
    rw [show V.part (⟨1, id, 0, last, ep, 0, 0, 0, 0, 0, A, n, c, G, 0, d⟩ : V) rows [] 114 = (n % 256 :: rows.flatMap row) from rfl]
    rw [step_number ⟨(⟨1, id, 0, false, 0, 0, 0, 0, 0, 0, none, 0, 0, none, 0, 0⟩ : V), [], [], ((Pk.be 8 ep ++ ([if last then 1 else 0] ++ ((n % 256 :: rows.flatMap row) ++ []))), false), false⟩ 2 ep ([if last then 1 else 0] ++ ((n % 256 :: rows.flatMap row) ++ [])) rfl o3 (by omega) (by omega)]
    dsimp only
    rw [step_flag ⟨((⟨1, id, 0, false, 0, 0, 0, 0, 0, 0, none, 0, 0, none, 0, 0⟩ : V).num 2 ep), [], [], (([if last then 1 else 0] ++ ((n % 256 :: rows.flatMap row) ++ [])), false), false⟩ last ((n % 256 :: rows.flatMap row) ++ []) rfl rfl]
    dsimp only
    rw [step_rows ⟨({ ((⟨1, id, 0, false, 0, 0, 0, 0, 0, 0, none, 0, 0, none, 0, 0⟩ : V).num 2 ep) with last := last } : V), [], [], (((n % 256 :: rows.flatMap row) ++ []), false), false⟩ n rows [] rfl hr ln hro]
    dsimp only
    rfl
  · change code = 0 at b1; change last = false at b2; change fl = 0 at b4; change st = 0 at b7; change ti = 0 at b8; change n = 0 at b9; change m = 0 at b10
    subst b1 b2 b4 b7 b8 b9 b10
    obtain rfl : gone = [] := List.eq_nil_of_length_eq_zero hg
    obtain rfl : rows = [] := List.eq_nil_of_length_eq_zero hr
    rw [show pparts 2 = [5, 2, 4] from rfl, show parts 2 = [76, 101, 117] from rfl]
    simp only [List.foldl_cons, List.foldl_nil, List.flatMap_cons, List.flatMap_nil]
    rw [show V.part (⟨2, id, 0, false, ep, 0, un, le, 0, 0, A, 0, c, G, 0, d⟩ : V) [] [] 76 = Pk.be 8 le from rfl]
    rw [show V.part (⟨2, id, 0, false, ep, 0, un, le, 0, 0, A, 0, c, G, 0, d⟩ : V) [] [] 101 = Pk.be 8 ep from rfl]
    rw [show V.part (⟨2, id, 0, false, ep, 0, un, le, 0, 0, A, 0, c, G, 0, d⟩ : V) [] [] 117 = Pk.be 8 un from rfl]
    rw [step_number ⟨(⟨2, id, 0, false, 0, 0, 0, 0, 0, 0, none, 0, 0, none, 0, 0⟩ : V), [], [], ((Pk.be 8 le ++ (Pk.be 8 ep ++ (Pk.be 8 un ++ []))), false), false⟩ 5 le (Pk.be 8 ep ++ (Pk.be 8 un ++ [])) rfl o6 (by omega) (by omega)]
    dsimp only
    rw [step_number ⟨((⟨2, id, 0, false, 0, 0, 0, 0, 0, 0, none, 0, 0, none, 0, 0⟩ : V).num 5 le), [], [], ((Pk.be 8 ep ++ (Pk.be 8 un ++ [])), false), false⟩ 2 ep (Pk.be 8 un ++ []) rfl o3 (by omega) (by omega)]
    dsimp only
    rw [step_number ⟨(((⟨2, id, 0, false, 0, 0, 0, 0, 0, 0, none, 0, 0, none, 0, 0⟩ : V).num 5 le).num 2 ep), [], [], ((Pk.be 8 un ++ []), false), false⟩ 4 un [] rfl o5 (by omega) (by omega)]
    dsimp only
    rfl
  · change code = 0 at b1; change last = false at b2; change fl = 0 at b4; change st = 0 at b7; change ti = 0 at b8; change n = 0 at b9; change m = 0 at b10
    subst b1 b2 b4 b7 b8 b9 b10
    obtain rfl : gone = [] := List.eq_nil_of_length_eq_zero hg
    obtain rfl : rows = [] := List.eq_nil_of_length_eq_zero hr
    rw [show pparts 3 = [5, 2, 4] from rfl, show parts 3 = [76, 101, 117] from rfl]
    simp only [List.foldl_cons, List.foldl_nil, List.flatMap_cons, List.flatMap_nil]
    rw [show V.part (⟨3, id, 0, false, ep, 0, un, le, 0, 0, A, 0, c, G, 0, d⟩ : V) [] [] 76 = Pk.be 8 le from rfl]
    rw [show V.part (⟨3, id, 0, false, ep, 0, un, le, 0, 0, A, 0, c, G, 0, d⟩ : V) [] [] 101 = Pk.be 8 ep from rfl]
    rw [show V.part (⟨3, id, 0, false, ep, 0, un, le, 0, 0, A, 0, c, G, 0, d⟩ : V) [] [] 117 = Pk.be 8 un from rfl]
    rw [step_number ⟨(⟨3, id, 0, false, 0, 0, 0, 0, 0, 0, none, 0, 0, none, 0, 0⟩ : V), [], [], ((Pk.be 8 le ++ (Pk.be 8 ep ++ (Pk.be 8 un ++ []))), false), false⟩ 5 le (Pk.be 8 ep ++ (Pk.be 8 un ++ [])) rfl o6 (by omega) (by omega)]
    dsimp only
    rw [step_number ⟨((⟨3, id, 0, false, 0, 0, 0, 0, 0, 0, none, 0, 0, none, 0, 0⟩ : V).num 5 le), [], [], ((Pk.be 8 ep ++ (Pk.be 8 un ++ [])), false), false⟩ 2 ep (Pk.be 8 un ++ []) rfl o3 (by omega) (by omega)]
    dsimp only
    rw [step_number ⟨(((⟨3, id, 0, false, 0, 0, 0, 0, 0, 0, none, 0, 0, none, 0, 0⟩ : V).num 5 le).num 2 ep), [], [], ((Pk.be 8 un ++ []), false), false⟩ 4 un [] rfl o5 (by omega) (by omega)]
    dsimp only
    rfl
  · change code = 0 at b1; change fl = 0 at b4; change un = 0 at b5; change le = 0 at b6; change st = 0 at b7; change ti = 0 at b8
    subst b1 b4 b5 b6 b7 b8
    rw [show pparts 4 = [2, 1, 8, 9] from rfl, show parts 4 = [101, 108, 114, 103] from rfl]
    simp only [List.foldl_cons, List.foldl_nil, List.flatMap_cons, List.flatMap_nil]
    rw [show V.part (⟨4, id, 0, last, ep, 0, 0, 0, 0, 0, A, n, c, G, m, d⟩ : V) rows gone 101 = Pk.be 8 ep from rfl]
    rw [show V.part (⟨4, id, 0, last, ep, 0, 0, 0, 0, 0, A, n, c, G, m, d⟩ : V) rows gone 108 = [if last then 1 else 0] from rfl]
    rw [show V.part (⟨4, id, 0, last, ep, 0, 0, 0, 0, 0, A, n, c, G, m, d⟩ : V) rows gone 114 = (n % 256 :: rows.flatMap row) from rfl]
    rw [show V.part (⟨4, id, 0, last, ep, 0, 0, 0, 0, 0, A, n, c, G, m, d⟩ : V) rows gone 103 = (m % 256 :: gone.flatMap pane) from rfl]
    rw [step_number ⟨(⟨4, id, 0, false, 0, 0, 0, 0, 0, 0, none, 0, 0, none, 0, 0⟩ : V), [], [], ((Pk.be 8 ep ++ ([if last then 1 else 0] ++ ((n % 256 :: rows.flatMap row) ++ ((m % 256 :: gone.flatMap pane) ++ [])))), false), false⟩ 2 ep ([if last then 1 else 0] ++ ((n % 256 :: rows.flatMap row) ++ ((m % 256 :: gone.flatMap pane) ++ []))) rfl o3 (by omega) (by omega)]
    dsimp only
    rw [step_flag ⟨((⟨4, id, 0, false, 0, 0, 0, 0, 0, 0, none, 0, 0, none, 0, 0⟩ : V).num 2 ep), [], [], (([if last then 1 else 0] ++ ((n % 256 :: rows.flatMap row) ++ ((m % 256 :: gone.flatMap pane) ++ []))), false), false⟩ last ((n % 256 :: rows.flatMap row) ++ ((m % 256 :: gone.flatMap pane) ++ [])) rfl rfl]
    dsimp only
    rw [step_rows ⟨({ ((⟨4, id, 0, false, 0, 0, 0, 0, 0, 0, none, 0, 0, none, 0, 0⟩ : V).num 2 ep) with last := last } : V), [], [], (((n % 256 :: rows.flatMap row) ++ ((m % 256 :: gone.flatMap pane) ++ [])), false), false⟩ n rows ((m % 256 :: gone.flatMap pane) ++ []) rfl hr ln hro]
    dsimp only
    rw [step_gone ⟨({ ({ ((⟨4, id, 0, false, 0, 0, 0, 0, 0, 0, none, 0, 0, none, 0, 0⟩ : V).num 2 ep) with last := last } : V) with n := n } : V), rows, [], (((m % 256 :: gone.flatMap pane) ++ []), false), false⟩ m gone [] rfl hg lm hgo]
    dsimp only
    rfl
  · change code = 0 at b1; change last = false at b2; change un = 0 at b5; change le = 0 at b6; change n = 0 at b9; change m = 0 at b10
    subst b1 b2 b5 b6 b9 b10
    obtain rfl : gone = [] := List.eq_nil_of_length_eq_zero hg
    obtain rfl : rows = [] := List.eq_nil_of_length_eq_zero hr
    rw [show pparts 5 = [2, 3, 6, 7] from rfl, show parts 5 = [101, 102, 115, 116] from rfl]
    simp only [List.foldl_cons, List.foldl_nil, List.flatMap_cons, List.flatMap_nil]
    rw [show V.part (⟨5, id, 0, false, ep, fl, 0, 0, st, ti, A, 0, c, G, 0, d⟩ : V) [] [] 101 = Pk.be 8 ep from rfl]
    rw [show V.part (⟨5, id, 0, false, ep, fl, 0, 0, st, ti, A, 0, c, G, 0, d⟩ : V) [] [] 102 = Pk.be 8 fl from rfl]
    rw [show V.part (⟨5, id, 0, false, ep, fl, 0, 0, st, ti, A, 0, c, G, 0, d⟩ : V) [] [] 115 = Pk.be 8 st from rfl]
    rw [show V.part (⟨5, id, 0, false, ep, fl, 0, 0, st, ti, A, 0, c, G, 0, d⟩ : V) [] [] 116 = Pk.be 8 ti from rfl]
    rw [step_number ⟨(⟨5, id, 0, false, 0, 0, 0, 0, 0, 0, none, 0, 0, none, 0, 0⟩ : V), [], [], ((Pk.be 8 ep ++ (Pk.be 8 fl ++ (Pk.be 8 st ++ (Pk.be 8 ti ++ [])))), false), false⟩ 2 ep (Pk.be 8 fl ++ (Pk.be 8 st ++ (Pk.be 8 ti ++ []))) rfl o3 (by omega) (by omega)]
    dsimp only
    rw [step_number ⟨((⟨5, id, 0, false, 0, 0, 0, 0, 0, 0, none, 0, 0, none, 0, 0⟩ : V).num 2 ep), [], [], ((Pk.be 8 fl ++ (Pk.be 8 st ++ (Pk.be 8 ti ++ []))), false), false⟩ 3 fl (Pk.be 8 st ++ (Pk.be 8 ti ++ [])) rfl o4 (by omega) (by omega)]
    dsimp only
    rw [step_number ⟨(((⟨5, id, 0, false, 0, 0, 0, 0, 0, 0, none, 0, 0, none, 0, 0⟩ : V).num 2 ep).num 3 fl), [], [], ((Pk.be 8 st ++ (Pk.be 8 ti ++ [])), false), false⟩ 6 st (Pk.be 8 ti ++ []) rfl o7 (by omega) (by omega)]
    dsimp only
    rw [step_number ⟨((((⟨5, id, 0, false, 0, 0, 0, 0, 0, 0, none, 0, 0, none, 0, 0⟩ : V).num 2 ep).num 3 fl).num 6 st), [], [], ((Pk.be 8 ti ++ []), false), false⟩ 7 ti [] rfl o8 (by omega) (by omega)]
    dsimp only
    rfl
  · change code = 0 at b1; change last = false at b2; change ep = 0 at b3; change fl = 0 at b4; change un = 0 at b5; change le = 0 at b6; change st = 0 at b7; change ti = 0 at b8; change n = 0 at b9; change m = 0 at b10
    subst b1 b2 b3 b4 b5 b6 b7 b8 b9 b10
    obtain rfl : gone = [] := List.eq_nil_of_length_eq_zero hg
    obtain rfl : rows = [] := List.eq_nil_of_length_eq_zero hr
    rw [show pparts 6 = [] from rfl, show parts 6 = [] from rfl]
    simp only [List.foldl_nil, List.flatMap_nil]
    rfl
  · change last = false at b2; change ep = 0 at b3; change un = 0 at b5; change le = 0 at b6; change st = 0 at b7; change ti = 0 at b8; change n = 0 at b9; change m = 0 at b10
    subst b2 b3 b5 b6 b7 b8 b9 b10
    obtain rfl : gone = [] := List.eq_nil_of_length_eq_zero hg
    obtain rfl : rows = [] := List.eq_nil_of_length_eq_zero hr
    rw [show pparts 7 = [0, 3] from rfl, show parts 7 = [99, 102] from rfl]
    simp only [List.foldl_cons, List.foldl_nil, List.flatMap_cons, List.flatMap_nil]
    rw [show V.part (⟨7, id, code, false, 0, fl, 0, 0, 0, 0, A, 0, c, G, 0, d⟩ : V) [] [] 99 = Pk.be 2 code from rfl]
    rw [show V.part (⟨7, id, code, false, 0, fl, 0, 0, 0, 0, A, 0, c, G, 0, d⟩ : V) [] [] 102 = Pk.be 8 fl from rfl]
    rw [step_code ⟨(⟨7, id, 0, false, 0, 0, 0, 0, 0, 0, none, 0, 0, none, 0, 0⟩ : V), [], [], ((Pk.be 2 code ++ (Pk.be 8 fl ++ [])), false), false⟩ code (Pk.be 8 fl ++ []) rfl o2]
    dsimp only
    rw [step_number ⟨{ (⟨7, id, 0, false, 0, 0, 0, 0, 0, 0, none, 0, 0, none, 0, 0⟩ : V) with code := code }, [], [], ((Pk.be 8 fl ++ []), false), false⟩ 3 fl [] rfl o4 (by omega) (by omega)]
    dsimp only
    rfl
end Rp
end Go.Proofs.YtognlgklepgemaaGreat

namespace Go.Proofs.YtognlgklepgemaaGreat
open Go.ChangeShapes Go.WideShapes Go.ChangeAt Go.RowKit
namespace Rp
theorem nx_inv {s : St} (h : St.ok s) (k : Nat) (hf : (nx s k).2 = false) : s.2 = false ∧ s.1 = Pk.be k (vl s k) ++ (nx s k).1 := by
  obtain ⟨l, f⟩ := s
  unfold nx at hf
  dsimp only at hf
  obtain ⟨rfl, hk⟩ := Pk.fails_iff.1 hf
  refine ⟨rfl, ?_⟩
  unfold vl nx
  dsimp only
  rw [Pk.taken_no hf, Pk.left_no hf]
  have hl : (l.take k).length = k := by rw [List.length_take]; omega
  have e := be_num8 (l.take k) (fun x hx => h x (List.mem_of_mem_take hx))
  rw [hl] at e
  rw [e, List.take_append_drop]
theorem tx_inv {s : St} (h : St.ok s) (hf : (tx s).2 = false) : s.2 = false ∧ s.1 = Pk.tx (nums (tt s)) ++ (tx s).1 := by
  obtain ⟨l, f⟩ := s
  unfold tx at hf
  dsimp only at hf
  obtain ⟨h2, hl⟩ := Pk.tfails_iff.1 hf
  obtain ⟨rfl, hk⟩ := Pk.fails_iff.1 h2
  refine ⟨rfl, ?_⟩
  unfold tt tx
  dsimp only
  rw [Pk.ttaken_no hf, Pk.tleft_no hf]
  have hlt : ∀ x ∈ (l.drop 2).take (Pk.tlen false l), x < 256 := fun x hx => h x (List.mem_of_mem_drop (List.mem_of_mem_take hx))
  rw [nums_textOf8 hlt]
  unfold Pk.tx
  have e1 : ((l.drop 2).take (Pk.tlen false l)).length = Pk.tlen false l := by rw [List.length_take, List.length_drop]; omega
  have e2 : Pk.be 2 (Pk.tlen false l) = l.take 2 := by
    have e := be_num8 (l.take 2) (fun x hx => h x (List.mem_of_mem_take hx))
    have hl2 : (l.take 2).length = 2 := by rw [List.length_take]; omega
    rw [hl2] at e
    unfold Pk.tlen
    rw [Pk.taken_no h2]
    exact e
  rw [e1, e2, List.append_assoc, ← List.drop_drop, List.take_append_drop, List.take_append_drop]
theorem vl8 {s : St} (h : St.ok s) : vl s 8 < 18446744073709551616 := vl_lt h 8
theorem tPane_inv {s : St} (h : St.ok s) (hf : (tPane s).2.2 = false) : s.2 = false ∧ s.1 = pane (tPane s).1 ++ (tPane s).2.1 := by
  have o1 := tx_ok h
  have o2 := nx_ok o1 8
  obtain ⟨f2, e3⟩ := nx_inv o2 8 hf
  obtain ⟨f1, e2⟩ := nx_inv o1 8 f2
  obtain ⟨f0, e1⟩ := tx_inv h f1
  refine ⟨f0, ?_⟩
  unfold tPane pane
  dsimp only
  rw [u_sg (vl8 o1), u_sg (vl8 o2), List.append_assoc, List.append_assoc, ← e3, ← e2, ← e1]
theorem tAgg_inv {s : St} (h : St.ok s) (hf : (tAgg s).2.2 = false) : s.2 = false ∧ s.1 = agg (tAgg s).1 ++ (tAgg s).2.1 := by
  have o1 := nx_ok h 8
  have o2 := nx_ok o1 8
  have o3 := nx_ok o2 8
  obtain ⟨f3, e4⟩ := nx_inv o3 8 hf
  obtain ⟨f2, e3⟩ := nx_inv o2 8 f3
  obtain ⟨f1, e2⟩ := nx_inv o1 8 f2
  obtain ⟨f0, e1⟩ := nx_inv h 8 f1
  refine ⟨f0, ?_⟩
  unfold tAgg agg
  dsimp only
  rw [u_sg (vl8 h), u_sg (vl8 o1), u_sg (vl8 o2), u_sg (vl8 o3), List.append_assoc, List.append_assoc, List.append_assoc, ← e4, ← e3, ← e2, ← e1]
theorem tRow_inv {s : St} (h : St.ok s) (hf : (tRow s).2.2 = false) : s.2 = false ∧ s.1 = row (tRow s).1 ++ (tRow s).2.1 := by
  obtain ⟨f1, e2⟩ := tAgg_inv (tPane_ok h) hf
  obtain ⟨f0, e1⟩ := tPane_inv h f1
  refine ⟨f0, ?_⟩
  unfold tRow row
  dsimp only
  rw [List.append_assoc, ← e2, ← e1]
theorem tList_inv {α : Type} {f : St → α × St} {g : α → List Nat} (hok : ∀ s, St.ok s → St.ok (f s).2) (hinv : ∀ s, St.ok s → (f s).2.2 = false → s.2 = false ∧ s.1 = g (f s).1 ++ (f s).2.1) (n : Nat) {s : St} (h : St.ok s) (hf : (tList f n s).2.2 = false) : s.2 = false ∧ s.1 = (tList f n s).1.flatMap g ++ (tList f n s).2.1 := by
  induction n generalizing s with
  | zero => exact ⟨hf, by simp [tList]⟩
  | succ n ih =>
    obtain ⟨f1, e2⟩ := ih (hok s h) hf
    obtain ⟨f0, e1⟩ := hinv s h f1
    refine ⟨f0, ?_⟩
    show s.1 = ((f s).1 :: (tList f n (f s).2).1).flatMap g ++ (tList f n (f s).2).2.1
    rw [List.flatMap_cons, List.append_assoc, ← e2, ← e1]
theorem inv_num (σ : Sg) (p : Nat) (h : St.ok σ.s) (h1 : 2 ≤ p) (h2 : p ≤ 7) (hf : (σ.step p).s.2 = false) : σ.s.2 = false ∧ (σ.step p).odd = σ.odd ∧ σ.s.1 = Pk.be 8 (vl σ.s 8) ++ (σ.step p).s.1 := by
  rw [σ.step_num p h1 h2] at hf ⊢
  obtain ⟨a, b⟩ := nx_inv h 8 hf
  exact ⟨a, rfl, b⟩
theorem inv_code (σ : Sg) (h : St.ok σ.s) (hf : (σ.step 0).s.2 = false) : σ.s.2 = false ∧ (σ.step 0).odd = σ.odd ∧ σ.s.1 = Pk.be 2 (vl σ.s 2) ++ (σ.step 0).s.1 := by
  obtain ⟨a, b⟩ := nx_inv h 2 hf
  exact ⟨a, rfl, b⟩
theorem inv_flag (σ : Sg) (h : St.ok σ.s) (hf : (σ.step 1).s.2 = false) (ho : (σ.step 1).odd = false) : σ.s.2 = false ∧ σ.odd = false ∧ σ.s.1 = [if (σ.step 1).x.last then 1 else 0] ++ (σ.step 1).s.1 := by
  obtain ⟨a, b⟩ := nx_inv h 1 hf
  have ho' : (σ.odd || decide (1 < vl σ.s 1)) = false := ho
  rw [Bool.or_eq_false_iff, decide_eq_false_iff_not] at ho'
  have hv := vl_lt h 1
  rw [be_one _ hv] at b
  refine ⟨a, ho'.1, ?_⟩
  have e : (σ.step 1).x.last = decide (vl σ.s 1 = 1) := rfl
  have e2 : (σ.step 1).s.1 = (nx σ.s 1).1 := rfl
  rw [e, e2, b]
  by_cases h1 : vl σ.s 1 = 1
  · rw [decide_eq_true h1, h1]; rfl
  · have h0 : vl σ.s 1 = 0 := by omega
    rw [decide_eq_false h1, h0]; rfl
theorem inv_rows (σ : Sg) (h : St.ok σ.s) (hf : (σ.step 8).s.2 = false) : σ.s.2 = false ∧ (σ.step 8).odd = σ.odd ∧ σ.s.1 = ((σ.step 8).x.n % 256 :: (σ.step 8).rows.flatMap row) ++ (σ.step 8).s.1 ∧ (σ.step 8).rows.length = (σ.step 8).x.n := by
  obtain ⟨a, b⟩ := tList_inv (g := row) (fun s => tRow_ok) (fun s hs hf => tRow_inv hs hf) (vl σ.s 1) (nx_ok h 1) hf
  obtain ⟨a2, b2⟩ := nx_inv h 1 a
  have hv := vl_lt h 1
  rw [be_one _ hv, b] at b2
  refine ⟨a2, rfl, ?_, tList_len _ _ _⟩
  show σ.s.1 = (vl σ.s 1 % 256 :: (tList tRow (vl σ.s 1) (nx σ.s 1)).1.flatMap row) ++ (tList tRow (vl σ.s 1) (nx σ.s 1)).2.1
  rw [Nat.mod_eq_of_lt hv]
  exact b2
theorem inv_gone (σ : Sg) (h : St.ok σ.s) (hf : (σ.step 9).s.2 = false) : σ.s.2 = false ∧ (σ.step 9).odd = σ.odd ∧ σ.s.1 = ((σ.step 9).x.m % 256 :: (σ.step 9).gone.flatMap pane) ++ (σ.step 9).s.1 ∧ (σ.step 9).gone.length = (σ.step 9).x.m := by
  obtain ⟨a, b⟩ := tList_inv (g := pane) (fun s => tPane_ok) (fun s hs hf => tPane_inv hs hf) (vl σ.s 1) (nx_ok h 1) hf
  obtain ⟨a2, b2⟩ := nx_inv h 1 a
  have hv := vl_lt h 1
  rw [be_one _ hv, b] at b2
  refine ⟨a2, rfl, ?_, tList_len _ _ _⟩
  show σ.s.1 = (vl σ.s 1 % 256 :: (tList tPane (vl σ.s 1) (nx σ.s 1)).1.flatMap pane) ++ (tList tPane (vl σ.s 1) (nx σ.s 1)).2.1
  rw [Nat.mod_eq_of_lt hv]
  exact b2
theorem steps_flat (σ0 : Sg) (h : σ0.ok) (h0 : σ0.rows = [] ∧ σ0.gone = [] ∧ σ0.x.n = 0 ∧ σ0.x.m = 0) (k : Nat) (hk : σ0.x.k = k) (hk1 : 1 ≤ k) (hk2 : k ≤ 7) (hf : ((pparts k).foldl Sg.step σ0).s.2 = false) (ho : ((pparts k).foldl Sg.step σ0).odd = false) :
    σ0.s.2 = false ∧ ((pparts k).foldl Sg.step σ0).x.k = σ0.x.k ∧ ((pparts k).foldl Sg.step σ0).x.id = σ0.x.id ∧ σ0.s.1 = (parts k).flatMap (((pparts k).foldl Sg.step σ0).x.part ((pparts k).foldl Sg.step σ0).rows ((pparts k).foldl Sg.step σ0).gone) ++ ((pparts k).foldl Sg.step σ0).s.1 ∧ ((pparts k).foldl Sg.step σ0).rows.length = ((pparts k).foldl Sg.step σ0).x.n ∧ ((pparts k).foldl Sg.step σ0).gone.length = ((pparts k).foldl Sg.step σ0).x.m := by
  have hk : k = 1 ∨ k = 2 ∨ k = 3 ∨ k = 4 ∨ k = 5 ∨ k = 6 ∨ k = 7 := by omega
  rcases hk with rfl | rfl | rfl | rfl | rfl | rfl | rfl
  · rw [show pparts 1 = [2, 1, 8] from rfl] at hf ho ⊢
    rw [show parts 1 = [101, 108, 114] from rfl]
    simp only [List.foldl_cons, List.foldl_nil, List.flatMap_cons, List.flatMap_nil] at hf ho ⊢
    have k0 := h
    have k1 := Sg.step_ok k0 2
    have k2 := Sg.step_ok k1 1
    have k3 := Sg.step_ok k2 8
    obtain ⟨f2, q2, e2, l2⟩ := inv_rows ((σ0.step 2).step 1) k2.2.1 hf
    have o2 := q2.symm.trans ho
    obtain ⟨f1, o1, e1⟩ := inv_flag (σ0.step 2) k1.2.1 f2 o2
    obtain ⟨f0, q0, e0⟩ := inv_num σ0 2 k0.2.1 (by omega) (by omega) f1
    have o0 := q0.symm.trans o1
    refine ⟨f0, rfl, rfl, ?_, l2, (by show (((σ0.step 2).step 1).step 8).gone.length = (((σ0.step 2).step 1).step 8).x.m; exact (by rw [show (((σ0.step 2).step 1).step 8).gone = σ0.gone from rfl, show (((σ0.step 2).step 1).step 8).x.m = σ0.x.m from rfl, h0.2.1, h0.2.2.2]; rfl))⟩
    rw [e0, e1, e2]
    simp only [List.append_assoc, List.append_nil]
    rfl
  · rw [show pparts 2 = [5, 2, 4] from rfl] at hf ho ⊢
    rw [show parts 2 = [76, 101, 117] from rfl]
    simp only [List.foldl_cons, List.foldl_nil, List.flatMap_cons, List.flatMap_nil] at hf ho ⊢
    have k0 := h
    have k1 := Sg.step_ok k0 5
    have k2 := Sg.step_ok k1 2
    have k3 := Sg.step_ok k2 4
    obtain ⟨f2, q2, e2⟩ := inv_num ((σ0.step 5).step 2) 4 k2.2.1 (by omega) (by omega) hf
    have o2 := q2.symm.trans ho
    obtain ⟨f1, q1, e1⟩ := inv_num (σ0.step 5) 2 k1.2.1 (by omega) (by omega) f2
    have o1 := q1.symm.trans o2
    obtain ⟨f0, q0, e0⟩ := inv_num σ0 5 k0.2.1 (by omega) (by omega) f1
    have o0 := q0.symm.trans o1
    refine ⟨f0, rfl, rfl, ?_, (by show (((σ0.step 5).step 2).step 4).rows.length = (((σ0.step 5).step 2).step 4).x.n; exact (by rw [show (((σ0.step 5).step 2).step 4).rows = σ0.rows from rfl, show (((σ0.step 5).step 2).step 4).x.n = σ0.x.n from rfl, h0.1, h0.2.2.1]; rfl)), (by show (((σ0.step 5).step 2).step 4).gone.length = (((σ0.step 5).step 2).step 4).x.m; exact (by rw [show (((σ0.step 5).step 2).step 4).gone = σ0.gone from rfl, show (((σ0.step 5).step 2).step 4).x.m = σ0.x.m from rfl, h0.2.1, h0.2.2.2]; rfl))⟩
    rw [e0, e1, e2]
    simp only [List.append_assoc, List.append_nil]
    rfl
  · rw [show pparts 3 = [5, 2, 4] from rfl] at hf ho ⊢
    rw [show parts 3 = [76, 101, 117] from rfl]
    simp only [List.foldl_cons, List.foldl_nil, List.flatMap_cons, List.flatMap_nil] at hf ho ⊢
    have k0 := h
    have k1 := Sg.step_ok k0 5
    have k2 := Sg.step_ok k1 2
    have k3 := Sg.step_ok k2 4
    obtain ⟨f2, q2, e2⟩ := inv_num ((σ0.step 5).step 2) 4 k2.2.1 (by omega) (by omega) hf
    have o2 := q2.symm.trans ho
    obtain ⟨f1, q1, e1⟩ := inv_num (σ0.step 5) 2 k1.2.1 (by omega) (by omega) f2
    have o1 := q1.symm.trans o2
    obtain ⟨f0, q0, e0⟩ := inv_num σ0 5 k0.2.1 (by omega) (by omega) f1
    have o0 := q0.symm.trans o1
    refine ⟨f0, rfl, rfl, ?_, (by show (((σ0.step 5).step 2).step 4).rows.length = (((σ0.step 5).step 2).step 4).x.n; exact (by rw [show (((σ0.step 5).step 2).step 4).rows = σ0.rows from rfl, show (((σ0.step 5).step 2).step 4).x.n = σ0.x.n from rfl, h0.1, h0.2.2.1]; rfl)), (by show (((σ0.step 5).step 2).step 4).gone.length = (((σ0.step 5).step 2).step 4).x.m; exact (by rw [show (((σ0.step 5).step 2).step 4).gone = σ0.gone from rfl, show (((σ0.step 5).step 2).step 4).x.m = σ0.x.m from rfl, h0.2.1, h0.2.2.2]; rfl))⟩
    rw [e0, e1, e2]
    simp only [List.append_assoc, List.append_nil]
    rfl
  · rw [show pparts 4 = [2, 1, 8, 9] from rfl] at hf ho ⊢
    rw [show parts 4 = [101, 108, 114, 103] from rfl]
    simp only [List.foldl_cons, List.foldl_nil, List.flatMap_cons, List.flatMap_nil] at hf ho ⊢
    have k0 := h
    have k1 := Sg.step_ok k0 2
    have k2 := Sg.step_ok k1 1
    have k3 := Sg.step_ok k2 8
    have k4 := Sg.step_ok k3 9
    obtain ⟨f3, q3, e3, l3⟩ := inv_gone (((σ0.step 2).step 1).step 8) k3.2.1 hf
    have o3 := q3.symm.trans ho
    obtain ⟨f2, q2, e2, l2⟩ := inv_rows ((σ0.step 2).step 1) k2.2.1 f3
    have o2 := q2.symm.trans o3
    obtain ⟨f1, o1, e1⟩ := inv_flag (σ0.step 2) k1.2.1 f2 o2
    obtain ⟨f0, q0, e0⟩ := inv_num σ0 2 k0.2.1 (by omega) (by omega) f1
    have o0 := q0.symm.trans o1
    refine ⟨f0, rfl, rfl, ?_, l2, l3⟩
    rw [e0, e1, e2, e3]
    simp only [List.append_assoc, List.append_nil]
    rfl
  · rw [show pparts 5 = [2, 3, 6, 7] from rfl] at hf ho ⊢
    rw [show parts 5 = [101, 102, 115, 116] from rfl]
    simp only [List.foldl_cons, List.foldl_nil, List.flatMap_cons, List.flatMap_nil] at hf ho ⊢
    have k0 := h
    have k1 := Sg.step_ok k0 2
    have k2 := Sg.step_ok k1 3
    have k3 := Sg.step_ok k2 6
    have k4 := Sg.step_ok k3 7
    obtain ⟨f3, q3, e3⟩ := inv_num (((σ0.step 2).step 3).step 6) 7 k3.2.1 (by omega) (by omega) hf
    have o3 := q3.symm.trans ho
    obtain ⟨f2, q2, e2⟩ := inv_num ((σ0.step 2).step 3) 6 k2.2.1 (by omega) (by omega) f3
    have o2 := q2.symm.trans o3
    obtain ⟨f1, q1, e1⟩ := inv_num (σ0.step 2) 3 k1.2.1 (by omega) (by omega) f2
    have o1 := q1.symm.trans o2
    obtain ⟨f0, q0, e0⟩ := inv_num σ0 2 k0.2.1 (by omega) (by omega) f1
    have o0 := q0.symm.trans o1
    refine ⟨f0, rfl, rfl, ?_, (by show ((((σ0.step 2).step 3).step 6).step 7).rows.length = ((((σ0.step 2).step 3).step 6).step 7).x.n; exact (by rw [show ((((σ0.step 2).step 3).step 6).step 7).rows = σ0.rows from rfl, show ((((σ0.step 2).step 3).step 6).step 7).x.n = σ0.x.n from rfl, h0.1, h0.2.2.1]; rfl)), (by show ((((σ0.step 2).step 3).step 6).step 7).gone.length = ((((σ0.step 2).step 3).step 6).step 7).x.m; exact (by rw [show ((((σ0.step 2).step 3).step 6).step 7).gone = σ0.gone from rfl, show ((((σ0.step 2).step 3).step 6).step 7).x.m = σ0.x.m from rfl, h0.2.1, h0.2.2.2]; rfl))⟩
    rw [e0, e1, e2, e3]
    simp only [List.append_assoc, List.append_nil]
    rfl
  · rw [show pparts 6 = [] from rfl] at hf ho ⊢
    rw [show parts 6 = [] from rfl]
    simp only [List.foldl_nil, List.flatMap_nil] at hf ho ⊢
    exact ⟨hf, trivial, trivial, rfl, by rw [h0.1, h0.2.2.1]; rfl, by rw [h0.2.1, h0.2.2.2]; rfl⟩
  · rw [show pparts 7 = [0, 3] from rfl] at hf ho ⊢
    rw [show parts 7 = [99, 102] from rfl]
    simp only [List.foldl_cons, List.foldl_nil, List.flatMap_cons, List.flatMap_nil] at hf ho ⊢
    have k0 := h
    have k1 := Sg.step_ok k0 0
    have k2 := Sg.step_ok k1 3
    obtain ⟨f1, q1, e1⟩ := inv_num (σ0.step 0) 3 k1.2.1 (by omega) (by omega) hf
    have o1 := q1.symm.trans ho
    obtain ⟨f0, q0, e0⟩ := inv_code σ0 k0.2.1 f1
    have o0 := q0.symm.trans o1
    refine ⟨f0, rfl, rfl, ?_, (by show ((σ0.step 0).step 3).rows.length = ((σ0.step 0).step 3).x.n; exact (by rw [show ((σ0.step 0).step 3).rows = σ0.rows from rfl, show ((σ0.step 0).step 3).x.n = σ0.x.n from rfl, h0.1, h0.2.2.1]; rfl)), (by show ((σ0.step 0).step 3).gone.length = ((σ0.step 0).step 3).x.m; exact (by rw [show ((σ0.step 0).step 3).gone = σ0.gone from rfl, show ((σ0.step 0).step 3).x.m = σ0.x.m from rfl, h0.2.1, h0.2.2.2]; rfl))⟩
    rw [e0, e1]
    simp only [List.append_assoc, List.append_nil]
    rfl
/-- WHAT IS PARSED IS PACKED AS THE SAME BYTES. -/
theorem forth {b : List Nat} (hb : ∀ y ∈ b, y < 256) (h : pse b = 0) : (fin b).x.right (fin b).rows (fin b).gone = true ∧ (fin b).x.bytes (fin b).rows (fin b).gone = b ∧ (fin b).rows.length = (fin b).x.n ∧ (fin b).gone.length = (fin b).x.m := by
  unfold pse at h
  split at h
  · exact absurd h (by decide)
  unfold Sg.err at h
  split at h
  rotate_left
  · rename_i hd
    exact absurd h hd
  rename_i hd
  split at h
  · exact absurd h (by decide)
  rename_i hor
  simp only [Bool.or_eq_true, Bool.not_eq_true', not_or, Bool.not_eq_false, Bool.not_eq_true] at hor
  obtain ⟨ho, hrt⟩ := hor
  have hff : (fin b).s.2 = false ∧ (fin b).s.1 = [] := by
    unfold Sg.done doneOf at hd
    split at hd
    · exact absurd hd (by decide)
    · rename_i hf
      split at hd
      · exact absurd hd (by decide)
      · rename_i hl
        exact ⟨by simpa using hf, List.eq_nil_of_length_eq_zero (by omega)⟩
  have hkind := (right_keys hrt).1
  obtain ⟨k1, k2, -, -⟩ := of_decide_eq_true hkind
  have hxk : (fin b).x.k = (s0 b).x.k := by
    have : ∀ (l : List Nat) (σ : Sg), (l.foldl Sg.step σ).x.k = σ.x.k := by
      intro l
      induction l with
      | nil => intro σ; rfl
      | cons p l ih =>
        intro σ
        rw [List.foldl_cons, ih]
        unfold Sg.step
        repeat' split
        all_goals first | rfl | exact (σ.x.num_nm p _).2.2.1
    exact this _ _
  rw [hxk] at k1 k2
  obtain ⟨g0, g1, g2, g3, g4, g5⟩ := steps_flat (s0 b) (s0_ok hb) ⟨rfl, rfl, rfl, rfl⟩ (s0 b).x.k rfl k1 k2 hff.1 ho
  refine ⟨hrt, ?_, g4, g5⟩
  have e0 : St.ok (b, false) := hb
  obtain ⟨a1, a2⟩ := nx_inv (nx_ok e0 1) 4 g0
  obtain ⟨b1, b2⟩ := nx_inv e0 1 a1
  have hv := vl_lt e0 1
  rw [be_one _ hv] at b2
  have e2 : b = vl (b, false) 1 :: (Pk.be 4 (vl (nx (b, false) 1) 4) ++ (s0 b).s.1) := by
    have : (nx (b, false) 1).1 = Pk.be 4 (vl (nx (b, false) 1) 4) ++ (s0 b).s.1 := a2
    rw [← this]
    exact b2
  have e3 : (fin b).s.1 = [] := hff.2
  have g3' : (s0 b).s.1 = (parts (s0 b).x.k).flatMap ((fin b).x.part (fin b).rows (fin b).gone) ++ (fin b).s.1 := g3
  rw [e3, List.append_nil] at g3'
  unfold V.bytes
  have gk : (fin b).x.k = vl (b, false) 1 := g1
  have gi : (fin b).x.id = vl (nx (b, false) 1) 4 := g2
  rw [gi, gk]
  have : (s0 b).x.k = vl (b, false) 1 := rfl
  rw [this] at g3'
  rw [← g3']
  exact e2.symm
end Rp
end Go.Proofs.YtognlgklepgemaaGreat

namespace Go.Proofs.YtognlgklepgemaaGreat
open Go.ChangeShapes Go.WideShapes Go.ChangeAt Go.RowKit

theorem psp_in {w w' : World} {b : List Nat} {e : Ending} (h : PsP w b e w') : ∃ A c G d, e = .returned (.tuple #[((Rp.psx b).at_ A c G d).val, .int .i64 (Rp.pse b)]) ∧ ((Rp.psx b).at_ A c G d).In w' w'.heap.size (Rp.psr b) (Rp.psg b) ∧ Below w.heap.size w w' := by
  obtain ⟨A, c, G, d, he, h1, h2, hb⟩ := h
  exact ⟨A, c, G, d, he, ⟨RowsIn.of_own h1, PansIn.of_own h2⟩, hb⟩
theorem Rp.back8 (x : Rp.V) (rows : List Rw) (gone : List Pn) (h : x.right rows gone = true) (ok : x.ok) (hr : rows.length = x.n) (hg : gone.length = x.m) (hro : ∀ q ∈ rows, Rp.rwOk q) (hgo : ∀ q ∈ gone, Rp.pnOk q) :
    Rp.pse (x.bytes rows gone) = 0 ∧ Rp.psx (x.bytes rows gone) = x.at_ none 0 none 0 ∧ Rp.psr (x.bytes rows gone) = rows ∧ Rp.psg (x.bytes rows gone) = gone := by
  obtain ⟨h1, h2⟩ := Rp.back x rows gone h ok hr hg hro hgo
  have h0 : Rp.pse (x.bytes rows gone) = 0 := by
    unfold Rp.pse
    rw [if_neg (by rw [h1]; decide), h2]
    unfold Rp.Sg.err Rp.Sg.done
    dsimp only
    rw [Rp.right_at, h]
    rfl
  unfold Rp.psx Rp.psr Rp.psg
  rw [if_pos h0, if_pos h0, if_pos h0, h2]
  exact ⟨h0, rfl, rfl, rfl⟩
theorem same_b2 (n n' c c' B : Nat) (A A' : Option Addr) (l : List Nat) (w : World) (hn' : n = n') (hb : Bytes w B A n l) (hb' : Bytes w B A' n' l) (hn : n ≤ 9223372036854775807) : Calls Tryz.prog 17 #[.slice A n c, .slice A' n' c'] w fun e w' => e = .returned (.bool true) ∧ Below w.heap.size w w' := by
  subst hn'
  exact same_b n c c' B A A' l w hb hb' hn
theorem Rp.only_at : (Rp.only 0 0).at_ none 0 none 0 = Rp.only 0 0 := rfl
set_option maxRecDepth 100000 in
set_option maxHeartbeats 4000000 in
theorem replyBack_any (x : Rp.V) (rows : List Rw) (gone : List Pn) (N C : Nat) (Q : Option Addr) (l : List Nat) (w : World) (hx : x.In w w.heap.size rows gone) (okx : x.ok) (hro : ∀ q ∈ rows, (i64ok q.p.s ∧ i64ok q.p.e) ∧ aggOk q.a) (hgo : ∀ q ∈ gone, i64ok q.s ∧ i64ok q.e) (hq : Bytes w w.heap.size Q N l) (hN : N ≤ 9223372036854775807) : Calls Tryz.prog 7 #[x.val, .slice Q N C] w (LawP w) := by
  obtain ⟨W0, hW0⟩ : ∃ W, w.alloc (.cells x.cells 28) = W := ⟨_, rfl⟩
  have B0 : Below w.heap.size w W0 := by
    rw [← hW0]
    exact (Below.refl _ _).alloc (Nat.le_refl _) _
  have K1 : Blk W0 w.heap.size 28 x.cells := by
    rw [← hW0]
    exact Blk.new w _ _
  have P : Hid (∀ W, Below W0.heap.size W0 W → RepCells W w.heap.size x) := Lib.hid fun W hW => (rep_cells (K1.below hW K1.lt)).1
  have CF : Hid (∀ W, Below W0.heap.size W0 W → Calls Tryz.prog 15 #[x.val] W fun e w' => e = .returned (.bool (Rp.few x rows gone)) ∧ Below W.heap.size W w') := Lib.hid fun W hW => fewRep_any x rows gone w.heap.size W (hx.below (B0.trans (hW.mono B0.size)) (Nat.le_refl _)) (Nat.le_trans B0.size hW.size)
  have HB := Lib.hid B0
  cases hfx : Rp.few x rows gone
  · rw [hfx] at CF
    clear hfx hx okx hro hgo hq B0 K1
    obtain ⟨k, id, code, last, ep, fl, un, le, st, ti, A, n, c, G, m, d⟩ := x
    unfold Rp.V.val RepCells at *
    unfold Rp.V.cells at *
    dsimp only at *
    obtain ⟨u0, u1, u2, u3, u4, u5, u6, u7, u8, u9, u10, u11⟩ := P.out W0 (Below.refl _ _)
    go_enter Tryz.func7, Tryz.ntmps7
    go_wp2_with fail
    clear hW0 u0 u1 u2 u3 u4 u5 u6 u7 u8 u9 u10 u11
    refine (CF.out _ (Below.refl _ _)).mono ?_
    rintro e w1 ⟨rfl, b1⟩
    have H1 := Lib.hid (below_next HB.out b1)
    clear b1
    go_wp2_with fail
    refine (works8_any _).mono ?_
    rintro e w2 ⟨rfl, b2⟩
    have H2 := Lib.hid (below_next H1.out b2)
    clear b2
    go_wp2_with fail
    go_ret
    exact ⟨rfl, H2.out⟩
  rw [hfx] at CF
  by_cases h3 : 3000 < N
  · have h3' : (N : Int) > 3000 := by omega
    clear hfx hx okx hro hgo hq B0 K1
    obtain ⟨k, id, code, last, ep, fl, un, le, st, ti, A, n, c, G, m, d⟩ := x
    unfold Rp.V.val RepCells at *
    unfold Rp.V.cells at *
    dsimp only at *
    obtain ⟨u0, u1, u2, u3, u4, u5, u6, u7, u8, u9, u10, u11⟩ := P.out W0 (Below.refl _ _)
    go_enter Tryz.func7, Tryz.ntmps7
    go_wp2_with fail
    clear hW0 u0 u1 u2 u3 u4 u5 u6 u7 u8 u9 u10 u11
    refine (CF.out _ (Below.refl _ _)).mono ?_
    rintro e w1 ⟨rfl, b1⟩
    have H1 := Lib.hid (below_next HB.out b1)
    clear b1
    go_wp2_with fail
    refine (works8_any _).mono ?_
    rintro e w2 ⟨rfl, b2⟩
    have H2 := Lib.hid (below_next H1.out b2)
    clear b2
    go_wp2_with fail
    go_ret
    exact ⟨rfl, H2.out⟩
  obtain ⟨xn, xm, xrk, xgk⟩ := Rp.few_is hfx
  have h3' : ¬ ((N : Int) > 3000) := by omega
  have hl := hq.1
  have IX : Hid (∀ W, Below W0.heap.size W0 W → x.In W w.heap.size rows gone) := Lib.hid fun W hW => hx.below (B0.trans (hW.mono B0.size)) (Nat.le_refl _)
  have IQ : Hid (∀ W, Below W0.heap.size W0 W → Bytes W w.heap.size Q N l) := Lib.hid fun W hW => hq.below (B0.trans (hW.mono B0.size)) (Nat.le_refl _)
  have hsz : ∀ W, Below W0.heap.size W0 W → w.heap.size ≤ W.heap.size := fun W hW => Nat.le_trans B0.size hW.size
  obtain ⟨rr, hrr⟩ : ∃ r, x.right rows gone = r := ⟨_, rfl⟩
  obtain ⟨bs, hbs⟩ : ∃ r, Rp.putB x rows gone = r := ⟨_, rfl⟩
  have hbl : bs.length ≤ 5300 := by rw [← hbs]; exact Rp.putB_len x rows gone hx.1.1 hx.2.1
  have hblt : ∀ y ∈ bs, y < 256 := by rw [← hbs]; exact Rp.putB_lt x rows gone okx.1
  have CPut : Hid (∀ W, Below W0.heap.size W0 W → Calls Tryz.prog 16 #[x.val] W (PutR W bs (if rr then 0 else 81))) := Lib.hid fun W hW => by
    rw [← hbs, ← hrr]
    exact pPut8_any x rows gone w.heap.size W (IX.out W hW) (hsz W hW) okx (by omega) (by omega)
  have CRp : Hid (∀ W, Below W0.heap.size W0 W → Calls Tryz.prog 19 #[x.val] W fun e w' => e = .returned (.bool rr) ∧ Below W.heap.size W w') := Lib.hid fun W hW => by
    rw [← hrr]
    exact pRight8_any x rows gone w.heap.size W (IX.out W hW) (hsz W hW) okx (by omega) (by omega)
  obtain ⟨y, hy⟩ : ∃ y, Rp.psx l = y := ⟨_, rfl⟩
  obtain ⟨yr, hyr⟩ : ∃ y, Rp.psr l = y := ⟨_, rfl⟩
  obtain ⟨yg, hyg⟩ : ∃ y, Rp.psg l = y := ⟨_, rfl⟩
  obtain ⟨eb, heb⟩ : ∃ y, Rp.pse l = y := ⟨_, rfl⟩
  have CPb : Hid (∀ W, Below W0.heap.size W0 W → Calls Tryz.prog 23 #[.slice Q N C] W fun e w' => ∃ A c G d, e = .returned (.tuple #[(y.at_ A c G d).val, .int .i64 eb]) ∧ (y.at_ A c G d).In w' w'.heap.size yr yg ∧ Below W.heap.size W w') := Lib.hid fun W hW => by
    rw [← hy, ← hyr, ← hyg, ← heb]
    exact (pParse8_any N C w.heap.size Q l W (IQ.out W hW) (hsz W hW) (by omega)).mono fun e w' h => psp_in h
  have CPc : Hid (rr = true → ∀ W B A c, Bytes W B A bs.length bs → B ≤ W.heap.size → Calls Tryz.prog 23 #[.slice A bs.length c] W fun e w' => ∃ A c G d, e = .returned (.tuple #[(x.at_ A c G d).val, .int .i64 0]) ∧ (x.at_ A c G d).In w' w'.heap.size rows gone ∧ Below W.heap.size W w') := Lib.hid fun hr W B A c hb hB => by
    have hrt : x.right rows gone = true := hrr.trans hr
    have e : bs = x.bytes rows gone := by
      rw [← hbs]
      unfold Rp.putB
      rw [if_pos hrt]
    obtain ⟨e1, e2, e3, e4⟩ := Rp.back8 x rows gone hrt okx hx.1.1 hx.2.1 (fun q hq => ⟨⟨by have := xrk q hq; omega, (hro q hq).1⟩, (hro q hq).2⟩) (fun q hq => ⟨by have := xgk q hq; omega, hgo q hq⟩)
    refine (pParse8_any bs.length c B A bs W hb hB (by omega)).mono fun e' w' h => ?_
    have h := psp_in h
    rw [e, e1, e2, e3, e4] at h
    exact h
  have CSx : Hid (∀ W A c G d, Below W0.heap.size W0 W → (x.at_ A c G d).In W W.heap.size rows gone → Calls Tryz.prog 21 #[(x.at_ A c G d).val, x.val] W fun e w' => e = .returned (.bool true) ∧ Below W.heap.size W w') := Lib.hid fun W A c G d hW hin => by
    have h := psame8_any (x.at_ A c G d) x rows rows gone gone W.heap.size W hin ((IX.out W hW).more (hsz W hW)) (Nat.le_refl _) okx okx (by show x.n ≤ _; omega) (by show x.m ≤ _; omega) (by omega) (by omega)
    have e : Rp.same (x.at_ A c G d) x rows rows gone gone = true := Rp.same_at x rows gone A c G d x.A x.c x.G x.d
    rw [e] at h
    exact h
  have CSy : Hid (eb ≠ 0 → ∀ W A c G d, (y.at_ A c G d).In W W.heap.size yr yg → Calls Tryz.prog 21 #[(y.at_ A c G d).val, (Rp.only 0 0).val] W fun e w' => e = .returned (.bool true) ∧ Below W.heap.size W w') := Lib.hid fun h0 W A c G d hin => by
    have e1 : y = Rp.only 0 0 := by rw [← hy]; exact if_neg (by rw [heb]; exact h0)
    have e2 : yr = [] := by rw [← hyr]; exact if_neg (by rw [heb]; exact h0)
    have e3 : yg = [] := by rw [← hyg]; exact if_neg (by rw [heb]; exact h0)
    subst e1 e2 e3
    have ok0 : (Rp.only 0 0).ok := by unfold Rp.V.ok Rp.only; exact ⟨by decide, by decide, by decide, by decide, by decide, by decide, by decide, by decide, by decide⟩
    have h := psame8_any ((Rp.only 0 0).at_ A c G d) (Rp.only 0 0) [] [] [] [] W.heap.size W hin ⟨RowsIn.nil, PansIn.nil⟩ (Nat.le_refl _) ok0 ok0 (by show 0 ≤ _; omega) (by show 0 ≤ _; omega) (by show 0 ≤ _; omega) (by show 0 ≤ _; omega)
    have e : Rp.same ((Rp.only 0 0).at_ A c G d) (Rp.only 0 0) [] [] [] [] = true := Rp.same_at (Rp.only 0 0) [] [] A c G d none 0 none 0
    rw [e] at h
    exact h
  have hyok : eb = 0 → y.right yr yg = true ∧ y.bytes yr yg = l ∧ y.ok ∧ y.n ≤ 64 ∧ y.m ≤ 64 := fun h0 => by
    have h := heb.trans h0
    obtain ⟨f1, f2, f3, f4⟩ := Rp.forth hq.2.1 h
    have e1 : y = (Rp.fin l).x := by rw [← hy]; exact if_pos h
    have e2 : yr = (Rp.fin l).rows := by rw [← hyr]; exact if_pos h
    have e3 : yg = (Rp.fin l).gone := by rw [← hyg]; exact if_pos h
    have hk := (Rp.right_keys f1).2.2.2
    rw [e1, e2, e3]
    exact ⟨f1, f2, (Rp.fin_ok hq.2.1).1, by omega, by omega⟩
  have CPy : Hid (eb = 0 → ∀ W A c G d, (y.at_ A c G d).In W W.heap.size yr yg → Calls Tryz.prog 16 #[(y.at_ A c G d).val] W (PutR W l 0)) := Lib.hid fun h0 W A c G d hin => by
    obtain ⟨f1, f2, f3, f4, f5⟩ := hyok h0
    have h := pPut8_any (y.at_ A c G d) yr yg W.heap.size W hin (Nat.le_refl _) f3 (by show y.n ≤ _; omega) (by show y.m ≤ _; omega)
    rw [Rp.putB_at, Rp.putE_at] at h
    unfold Rp.putB Rp.putE at h
    rw [if_pos f1, if_pos f1, f2] at h
    exact h
  have CRy : Hid (eb = 0 → ∀ W A c G d, (y.at_ A c G d).In W W.heap.size yr yg → Calls Tryz.prog 19 #[(y.at_ A c G d).val] W fun e w' => e = .returned (.bool true) ∧ Below W.heap.size W w') := Lib.hid fun h0 W A c G d hin => by
    obtain ⟨f1, f2, f3, f4, f5⟩ := hyok h0
    have h := pRight8_any (y.at_ A c G d) yr yg W.heap.size W hin (Nat.le_refl _) f3 (by show y.n ≤ _; omega) (by show y.m ≤ _; omega)
    rw [Rp.right_at, f1] at h
    exact h
  have RC : Hid (∀ (Y : Rp.V) (W : World) g A c G d, Blk W g 28 (Y.at_ A c G d).cells → RepCells W g (Y.at_ A c G d)) := Lib.hid fun Y W g A c G d hW => (rep_cells hW).1
  have RCx := Lib.hid (RC.out x)
  have RCy := Lib.hid (RC.out y)
  have HBL := Lib.hid hblt
  have HQL := Lib.hid hq.2.1
  have hll : l.length = N := hl
  clear hx okx hro hgo hq B0 K1 hfx xn xm xrk xgk hl IX hrr hbs hblt hy hyr hyg heb hyok RC hsz
  cases rr
  · rw [show (if false = true then (0 : Int) else 81) = 81 from rfl] at CPut
    by_cases h0 : eb = 0
    · subst h0
      clear CPc CSx RCx
      have CPz := Lib.hid (CPy.out rfl)
      have CRz := Lib.hid (CRy.out rfl)
      clear CSy CPy CRy
      obtain ⟨k, id, code, last, ep, fl, un, le, st, ti, A, n, c, G, m, d⟩ := x
      obtain ⟨k', id', code', last', ep', fl', un', le', st', ti', A', n', c', G', m', d'⟩ := y
      unfold Rp.V.at_ Rp.V.val RepCells at *
      unfold Rp.V.cells at *
      dsimp only at *
      obtain ⟨u0, u1, u2, u3, u4, u5, u6, u7, u8, u9, u10, u11⟩ := P.out W0 (Below.refl _ _)
      go_enter Tryz.func7, Tryz.ntmps7
      go_wp2_with fail
      clear hW0 u0 u1 u2 u3 u4 u5 u6 u7 u8 u9 u10 u11
      refine (CF.out _ (Below.refl _ _)).mono ?_
      rintro e w1 ⟨rfl, b1⟩
      obtain ⟨u0, u1, u2, u3, u4, u5, u6, u7, u8, u9, u10, u11⟩ := P.out w1 b1
      have H1 := Lib.hid b1
      clear b1
      go_wp2_with fail
      clear u0 u1 u2 u3 u4 u5 u6 u7 u8 u9 u10 u11
      refine (CPut.out _ H1.out).mono ?_
      rintro e w2 ⟨A2, c2, rfl, o2, b2⟩
      obtain ⟨u0, u1, u2, u3, u4, u5, u6, u7, u8, u9, u10, u11⟩ := P.out w2 (below_next H1.out b2)
      have H2 := Lib.hid (And.intro (below_next H1.out b2) o2)
      clear b2 o2
      go_wp2_with fail
      clear u0 u1 u2 u3 u4 u5 u6 u7 u8 u9 u10 u11
      refine (CRp.out _ H2.out.1).mono ?_
      rintro e w3 ⟨rfl, b3⟩
      have H3 := Lib.hid (And.intro (below_next H2.out.1 b3) (own_below H2.out.2 b3))
      clear b3
      go_wp2_with fail
      refine (CPb.out _ H3.out.1).mono ?_
      rintro e w6 ⟨A6, c6, G6, d6, rfl, i6, b6⟩
      have a6 : Below w6.heap.size w6 (w6.alloc (.cells #[.int .u8 (k' : Int), .int .u32 (id' : Int), .int .u16 (code' : Int), .bool last', .int .u64 (ep' : Int), .int .u64 (fl' : Int), .int .u64 (un' : Int), .int .u64 (le' : Int), .int .u64 (st' : Int), .int .u64 (ti' : Int), .slice A6 n' c6, .slice G6 m' d6] 28)) := (Below.refl _ _).alloc (Nat.le_refl _) _
      have H6 := Lib.hid (And.intro (below_next (below_next H3.out.1 b6) a6) (And.intro (i6.below a6 (Nat.le_refl _)) (Blk.new w6 28 #[.int .u8 (k' : Int), .int .u32 (id' : Int), .int .u16 (code' : Int), .bool last', .int .u64 (ep' : Int), .int .u64 (fl' : Int), .int .u64 (un' : Int), .int .u64 (le' : Int), .int .u64 (st' : Int), .int .u64 (ti' : Int), .slice A6 n' c6, .slice G6 m' d6])))
      obtain ⟨u0, u1, u2, u3, u4, u5, u6, u7, u8, u9, u10, u11⟩ := RCy.out _ _ _ _ _ _ H6.out.2.2
      clear b6 i6 a6
      go_wp2_with fail
      clear u0 u1 u2 u3 u4 u5 u6 u7 u8 u9 u10 u11
      refine (CPz.out _ A6 c6 G6 d6 (H6.out.2.1.more (by simp))).mono ?_
      rintro e w7 ⟨A7, c7, rfl, o7, b7⟩
      have H7 := Lib.hid (And.intro (below_next H6.out.1 b7) (And.intro o7 (And.intro (H6.out.2.1.below b7 (by simp)) (H6.out.2.2.below b7 H6.out.2.2.lt))))
      obtain ⟨u0, u1, u2, u3, u4, u5, u6, u7, u8, u9, u10, u11⟩ := RCy.out _ _ _ _ _ _ H7.out.2.2.2
      have hz7 : w6.heap.size ≤ w7.heap.size := by have := b7.size; simp at this; omega
      clear b7 o7
      go_wp2_with fail
      clear u0 u1 u2 u3 u4 u5 u6 u7 u8 u9 u10 u11
      refine (CRz.out _ A6 c6 G6 d6 (H7.out.2.2.1.more hz7)).mono ?_
      rintro e w8 ⟨rfl, b8⟩
      have H8 := Lib.hid (And.intro (below_next H7.out.1 b8) (own_below H7.out.2.1 b8))
      clear b8
      go_wp2_with fail
      have q8 := Bytes.of_own H8.out.2 HQL.out
      rw [hll] at q8
      refine (same_b N c7 C w8.heap.size A7 Q l w8 q8 ((IQ.out _ H8.out.1).more (Nat.le_trans HB.out.size H8.out.1.size)) (by omega)).mono ?_
      rintro e w9 ⟨rfl, b9⟩
      have H9 := Lib.hid (below_next H8.out.1 b9)
      clear b9
      go_wp2_with fail
      refine (works8_any _).mono ?_
      rintro e w10 ⟨rfl, b10⟩
      have H10 := Lib.hid (below_next H9.out b10)
      clear b10
      go_wp2_with fail
      go_ret
      exact ⟨rfl, below_next HB.out H10.out⟩
    · skip
      clear CPc CSx RCx
      have CSz := Lib.hid (CSy.out h0)
      have hne : (eb == 0) = false := by simpa using h0
      have hne2 : (eb != 0) = true := by simpa using h0
      clear CSy CPy CRy
      obtain ⟨k, id, code, last, ep, fl, un, le, st, ti, A, n, c, G, m, d⟩ := x
      obtain ⟨k', id', code', last', ep', fl', un', le', st', ti', A', n', c', G', m', d'⟩ := y
      unfold Rp.V.at_ Rp.V.val RepCells at *
      unfold Rp.V.cells at *
      unfold Rp.only at *
      dsimp only at *
      obtain ⟨u0, u1, u2, u3, u4, u5, u6, u7, u8, u9, u10, u11⟩ := P.out W0 (Below.refl _ _)
      go_enter Tryz.func7, Tryz.ntmps7
      go_wp2_with fail
      clear hW0 u0 u1 u2 u3 u4 u5 u6 u7 u8 u9 u10 u11
      refine (CF.out _ (Below.refl _ _)).mono ?_
      rintro e w1 ⟨rfl, b1⟩
      obtain ⟨u0, u1, u2, u3, u4, u5, u6, u7, u8, u9, u10, u11⟩ := P.out w1 b1
      have H1 := Lib.hid b1
      clear b1
      go_wp2_with fail
      clear u0 u1 u2 u3 u4 u5 u6 u7 u8 u9 u10 u11
      refine (CPut.out _ H1.out).mono ?_
      rintro e w2 ⟨A2, c2, rfl, o2, b2⟩
      obtain ⟨u0, u1, u2, u3, u4, u5, u6, u7, u8, u9, u10, u11⟩ := P.out w2 (below_next H1.out b2)
      have H2 := Lib.hid (And.intro (below_next H1.out b2) o2)
      clear b2 o2
      go_wp2_with fail
      clear u0 u1 u2 u3 u4 u5 u6 u7 u8 u9 u10 u11
      refine (CRp.out _ H2.out.1).mono ?_
      rintro e w3 ⟨rfl, b3⟩
      have H3 := Lib.hid (And.intro (below_next H2.out.1 b3) (own_below H2.out.2 b3))
      clear b3
      go_wp2_with fail
      refine (CPb.out _ H3.out.1).mono ?_
      rintro e w6 ⟨A6, c6, G6, d6, rfl, i6, b6⟩
      have a6 : Below w6.heap.size w6 (w6.alloc (.cells #[.int .u8 (k' : Int), .int .u32 (id' : Int), .int .u16 (code' : Int), .bool last', .int .u64 (ep' : Int), .int .u64 (fl' : Int), .int .u64 (un' : Int), .int .u64 (le' : Int), .int .u64 (st' : Int), .int .u64 (ti' : Int), .slice A6 n' c6, .slice G6 m' d6] 28)) := (Below.refl _ _).alloc (Nat.le_refl _) _
      have H6 := Lib.hid (And.intro (below_next (below_next H3.out.1 b6) a6) (And.intro (i6.below a6 (Nat.le_refl _)) (Blk.new w6 28 #[.int .u8 (k' : Int), .int .u32 (id' : Int), .int .u16 (code' : Int), .bool last', .int .u64 (ep' : Int), .int .u64 (fl' : Int), .int .u64 (un' : Int), .int .u64 (le' : Int), .int .u64 (st' : Int), .int .u64 (ti' : Int), .slice A6 n' c6, .slice G6 m' d6])))
      obtain ⟨u0, u1, u2, u3, u4, u5, u6, u7, u8, u9, u10, u11⟩ := RCy.out _ _ _ _ _ _ H6.out.2.2
      clear b6 i6 a6
      go_wp2_with fail
      clear u0 u1 u2 u3 u4 u5 u6 u7 u8 u9 u10 u11
      refine (CSz.out _ A6 c6 G6 d6 (H6.out.2.1.more (by simp))).mono ?_
      rintro e w7 ⟨rfl, b7⟩
      have H7 := Lib.hid (below_next H6.out.1 b7)
      clear b7
      go_wp2_with fail
      refine (works8_any _).mono ?_
      rintro e w8 ⟨rfl, b8⟩
      have H8 := Lib.hid (below_next H7.out b8)
      clear b8
      go_wp2_with fail
      go_ret
      exact ⟨rfl, below_next HB.out H8.out⟩
  · rw [show (if true = true then (0 : Int) else 81) = 0 from rfl] at CPut
    by_cases h0 : eb = 0
    · subst h0
      have CPx := Lib.hid (CPc.out rfl)
      clear CPc
      have CPz := Lib.hid (CPy.out rfl)
      have CRz := Lib.hid (CRy.out rfl)
      clear CSy CPy CRy
      obtain ⟨k, id, code, last, ep, fl, un, le, st, ti, A, n, c, G, m, d⟩ := x
      obtain ⟨k', id', code', last', ep', fl', un', le', st', ti', A', n', c', G', m', d'⟩ := y
      unfold Rp.V.at_ Rp.V.val RepCells at *
      unfold Rp.V.cells at *
      dsimp only at *
      obtain ⟨u0, u1, u2, u3, u4, u5, u6, u7, u8, u9, u10, u11⟩ := P.out W0 (Below.refl _ _)
      go_enter Tryz.func7, Tryz.ntmps7
      go_wp2_with fail
      clear hW0 u0 u1 u2 u3 u4 u5 u6 u7 u8 u9 u10 u11
      refine (CF.out _ (Below.refl _ _)).mono ?_
      rintro e w1 ⟨rfl, b1⟩
      obtain ⟨u0, u1, u2, u3, u4, u5, u6, u7, u8, u9, u10, u11⟩ := P.out w1 b1
      have H1 := Lib.hid b1
      clear b1
      go_wp2_with fail
      clear u0 u1 u2 u3 u4 u5 u6 u7 u8 u9 u10 u11
      refine (CPut.out _ H1.out).mono ?_
      rintro e w2 ⟨A2, c2, rfl, o2, b2⟩
      obtain ⟨u0, u1, u2, u3, u4, u5, u6, u7, u8, u9, u10, u11⟩ := P.out w2 (below_next H1.out b2)
      have H2 := Lib.hid (And.intro (below_next H1.out b2) o2)
      clear b2 o2
      go_wp2_with fail
      clear u0 u1 u2 u3 u4 u5 u6 u7 u8 u9 u10 u11
      refine (CRp.out _ H2.out.1).mono ?_
      rintro e w3 ⟨rfl, b3⟩
      have H3 := Lib.hid (And.intro (below_next H2.out.1 b3) (own_below H2.out.2 b3))
      clear b3
      go_wp2_with fail
      refine (CPx.out w3 w3.heap.size A2 c2 (Bytes.of_own H3.out.2 HBL.out) (Nat.le_refl _)).mono ?_
      rintro e w4 ⟨A4, c4, G4, d4, rfl, i4, b4⟩
      have a4 : Below w4.heap.size w4 (w4.alloc (.cells #[.int .u8 (k : Int), .int .u32 (id : Int), .int .u16 (code : Int), .bool last, .int .u64 (ep : Int), .int .u64 (fl : Int), .int .u64 (un : Int), .int .u64 (le : Int), .int .u64 (st : Int), .int .u64 (ti : Int), .slice A4 n c4, .slice G4 m d4] 28)) := (Below.refl _ _).alloc (Nat.le_refl _) _
      have H4 := Lib.hid (And.intro (below_next (below_next H3.out.1 b4) a4) (And.intro (i4.below a4 (Nat.le_refl _)) (Blk.new w4 28 #[.int .u8 (k : Int), .int .u32 (id : Int), .int .u16 (code : Int), .bool last, .int .u64 (ep : Int), .int .u64 (fl : Int), .int .u64 (un : Int), .int .u64 (le : Int), .int .u64 (st : Int), .int .u64 (ti : Int), .slice A4 n c4, .slice G4 m d4])))
      obtain ⟨u0, u1, u2, u3, u4, u5, u6, u7, u8, u9, u10, u11⟩ := P.out _ H4.out.1
      obtain ⟨v0, v1, v2, v3, v4, v5, v6, v7, v8, v9, v10, v11⟩ := RCx.out _ _ _ _ _ _ H4.out.2.2
      clear b4 i4 a4
      go_wp2_with fail
      clear u0 u1 u2 u3 u4 u5 u6 u7 u8 u9 u10 u11 v0 v1 v2 v3 v4 v5 v6 v7 v8 v9 v10 v11
      refine (CSx.out _ A4 c4 G4 d4 H4.out.1 (H4.out.2.1.more (by simp))).mono ?_
      rintro e w5 ⟨rfl, b5⟩
      have H5 := Lib.hid (below_next H4.out.1 b5)
      clear b5
      go_wp2_with fail
      refine (CPb.out _ H5.out).mono ?_
      rintro e w6 ⟨A6, c6, G6, d6, rfl, i6, b6⟩
      have a6 : Below w6.heap.size w6 (w6.alloc (.cells #[.int .u8 (k' : Int), .int .u32 (id' : Int), .int .u16 (code' : Int), .bool last', .int .u64 (ep' : Int), .int .u64 (fl' : Int), .int .u64 (un' : Int), .int .u64 (le' : Int), .int .u64 (st' : Int), .int .u64 (ti' : Int), .slice A6 n' c6, .slice G6 m' d6] 28)) := (Below.refl _ _).alloc (Nat.le_refl _) _
      have H6 := Lib.hid (And.intro (below_next (below_next H5.out b6) a6) (And.intro (i6.below a6 (Nat.le_refl _)) (Blk.new w6 28 #[.int .u8 (k' : Int), .int .u32 (id' : Int), .int .u16 (code' : Int), .bool last', .int .u64 (ep' : Int), .int .u64 (fl' : Int), .int .u64 (un' : Int), .int .u64 (le' : Int), .int .u64 (st' : Int), .int .u64 (ti' : Int), .slice A6 n' c6, .slice G6 m' d6])))
      obtain ⟨u0, u1, u2, u3, u4, u5, u6, u7, u8, u9, u10, u11⟩ := RCy.out _ _ _ _ _ _ H6.out.2.2
      clear b6 i6 a6
      go_wp2_with fail
      clear u0 u1 u2 u3 u4 u5 u6 u7 u8 u9 u10 u11
      refine (CPz.out _ A6 c6 G6 d6 (H6.out.2.1.more (by simp))).mono ?_
      rintro e w7 ⟨A7, c7, rfl, o7, b7⟩
      have H7 := Lib.hid (And.intro (below_next H6.out.1 b7) (And.intro o7 (And.intro (H6.out.2.1.below b7 (by simp)) (H6.out.2.2.below b7 H6.out.2.2.lt))))
      obtain ⟨u0, u1, u2, u3, u4, u5, u6, u7, u8, u9, u10, u11⟩ := RCy.out _ _ _ _ _ _ H7.out.2.2.2
      have hz7 : w6.heap.size ≤ w7.heap.size := by have := b7.size; simp at this; omega
      clear b7 o7
      go_wp2_with fail
      clear u0 u1 u2 u3 u4 u5 u6 u7 u8 u9 u10 u11
      refine (CRz.out _ A6 c6 G6 d6 (H7.out.2.2.1.more hz7)).mono ?_
      rintro e w8 ⟨rfl, b8⟩
      have H8 := Lib.hid (And.intro (below_next H7.out.1 b8) (own_below H7.out.2.1 b8))
      clear b8
      go_wp2_with fail
      have q8 := Bytes.of_own H8.out.2 HQL.out
      rw [hll] at q8
      refine (same_b N c7 C w8.heap.size A7 Q l w8 q8 ((IQ.out _ H8.out.1).more (Nat.le_trans HB.out.size H8.out.1.size)) (by omega)).mono ?_
      rintro e w9 ⟨rfl, b9⟩
      have H9 := Lib.hid (below_next H8.out.1 b9)
      clear b9
      go_wp2_with fail
      refine (works8_any _).mono ?_
      rintro e w10 ⟨rfl, b10⟩
      have H10 := Lib.hid (below_next H9.out b10)
      clear b10
      go_wp2_with fail
      go_ret
      exact ⟨rfl, below_next HB.out H10.out⟩
    · skip
      have CPx := Lib.hid (CPc.out rfl)
      clear CPc
      have CSz := Lib.hid (CSy.out h0)
      have hne : (eb == 0) = false := by simpa using h0
      have hne2 : (eb != 0) = true := by simpa using h0
      clear CSy CPy CRy
      obtain ⟨k, id, code, last, ep, fl, un, le, st, ti, A, n, c, G, m, d⟩ := x
      obtain ⟨k', id', code', last', ep', fl', un', le', st', ti', A', n', c', G', m', d'⟩ := y
      unfold Rp.V.at_ Rp.V.val RepCells at *
      unfold Rp.V.cells at *
      unfold Rp.only at *
      dsimp only at *
      obtain ⟨u0, u1, u2, u3, u4, u5, u6, u7, u8, u9, u10, u11⟩ := P.out W0 (Below.refl _ _)
      go_enter Tryz.func7, Tryz.ntmps7
      go_wp2_with fail
      clear hW0 u0 u1 u2 u3 u4 u5 u6 u7 u8 u9 u10 u11
      refine (CF.out _ (Below.refl _ _)).mono ?_
      rintro e w1 ⟨rfl, b1⟩
      obtain ⟨u0, u1, u2, u3, u4, u5, u6, u7, u8, u9, u10, u11⟩ := P.out w1 b1
      have H1 := Lib.hid b1
      clear b1
      go_wp2_with fail
      clear u0 u1 u2 u3 u4 u5 u6 u7 u8 u9 u10 u11
      refine (CPut.out _ H1.out).mono ?_
      rintro e w2 ⟨A2, c2, rfl, o2, b2⟩
      obtain ⟨u0, u1, u2, u3, u4, u5, u6, u7, u8, u9, u10, u11⟩ := P.out w2 (below_next H1.out b2)
      have H2 := Lib.hid (And.intro (below_next H1.out b2) o2)
      clear b2 o2
      go_wp2_with fail
      clear u0 u1 u2 u3 u4 u5 u6 u7 u8 u9 u10 u11
      refine (CRp.out _ H2.out.1).mono ?_
      rintro e w3 ⟨rfl, b3⟩
      have H3 := Lib.hid (And.intro (below_next H2.out.1 b3) (own_below H2.out.2 b3))
      clear b3
      go_wp2_with fail
      refine (CPx.out w3 w3.heap.size A2 c2 (Bytes.of_own H3.out.2 HBL.out) (Nat.le_refl _)).mono ?_
      rintro e w4 ⟨A4, c4, G4, d4, rfl, i4, b4⟩
      have a4 : Below w4.heap.size w4 (w4.alloc (.cells #[.int .u8 (k : Int), .int .u32 (id : Int), .int .u16 (code : Int), .bool last, .int .u64 (ep : Int), .int .u64 (fl : Int), .int .u64 (un : Int), .int .u64 (le : Int), .int .u64 (st : Int), .int .u64 (ti : Int), .slice A4 n c4, .slice G4 m d4] 28)) := (Below.refl _ _).alloc (Nat.le_refl _) _
      have H4 := Lib.hid (And.intro (below_next (below_next H3.out.1 b4) a4) (And.intro (i4.below a4 (Nat.le_refl _)) (Blk.new w4 28 #[.int .u8 (k : Int), .int .u32 (id : Int), .int .u16 (code : Int), .bool last, .int .u64 (ep : Int), .int .u64 (fl : Int), .int .u64 (un : Int), .int .u64 (le : Int), .int .u64 (st : Int), .int .u64 (ti : Int), .slice A4 n c4, .slice G4 m d4])))
      obtain ⟨u0, u1, u2, u3, u4, u5, u6, u7, u8, u9, u10, u11⟩ := P.out _ H4.out.1
      obtain ⟨v0, v1, v2, v3, v4, v5, v6, v7, v8, v9, v10, v11⟩ := RCx.out _ _ _ _ _ _ H4.out.2.2
      clear b4 i4 a4
      go_wp2_with fail
      clear u0 u1 u2 u3 u4 u5 u6 u7 u8 u9 u10 u11 v0 v1 v2 v3 v4 v5 v6 v7 v8 v9 v10 v11
      refine (CSx.out _ A4 c4 G4 d4 H4.out.1 (H4.out.2.1.more (by simp))).mono ?_
      rintro e w5 ⟨rfl, b5⟩
      have H5 := Lib.hid (below_next H4.out.1 b5)
      clear b5
      go_wp2_with fail
      refine (CPb.out _ H5.out).mono ?_
      rintro e w6 ⟨A6, c6, G6, d6, rfl, i6, b6⟩
      have a6 : Below w6.heap.size w6 (w6.alloc (.cells #[.int .u8 (k' : Int), .int .u32 (id' : Int), .int .u16 (code' : Int), .bool last', .int .u64 (ep' : Int), .int .u64 (fl' : Int), .int .u64 (un' : Int), .int .u64 (le' : Int), .int .u64 (st' : Int), .int .u64 (ti' : Int), .slice A6 n' c6, .slice G6 m' d6] 28)) := (Below.refl _ _).alloc (Nat.le_refl _) _
      have H6 := Lib.hid (And.intro (below_next (below_next H5.out b6) a6) (And.intro (i6.below a6 (Nat.le_refl _)) (Blk.new w6 28 #[.int .u8 (k' : Int), .int .u32 (id' : Int), .int .u16 (code' : Int), .bool last', .int .u64 (ep' : Int), .int .u64 (fl' : Int), .int .u64 (un' : Int), .int .u64 (le' : Int), .int .u64 (st' : Int), .int .u64 (ti' : Int), .slice A6 n' c6, .slice G6 m' d6])))
      obtain ⟨u0, u1, u2, u3, u4, u5, u6, u7, u8, u9, u10, u11⟩ := RCy.out _ _ _ _ _ _ H6.out.2.2
      clear b6 i6 a6
      go_wp2_with fail
      clear u0 u1 u2 u3 u4 u5 u6 u7 u8 u9 u10 u11
      refine (CSz.out _ A6 c6 G6 d6 (H6.out.2.1.more (by simp))).mono ?_
      rintro e w7 ⟨rfl, b7⟩
      have H7 := Lib.hid (below_next H6.out.1 b7)
      clear b7
      go_wp2_with fail
      refine (works8_any _).mono ?_
      rintro e w8 ⟨rfl, b8⟩
      have H8 := Lib.hid (below_next H7.out b8)
      clear b8
      go_wp2_with fail
      go_ret
      exact ⟨rfl, below_next HB.out H8.out⟩
end Go.Proofs.YtognlgklepgemaaGreat
