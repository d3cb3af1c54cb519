/- Layer 9's plain mathematics: bytes, parsed; what is packed is parsed as it was, and what is parsed is packed as the same bytes. -/
import Derived.Test.YtgailpljcobabaaDoorRqV
import Derived.Test.YtgailpljcobabaaDoorPk9
namespace Go.Proofs.YtgailpljcobabaaDoor
open Go.ChangeShapes Go.WideShapes Go.ChangeAt Go.RowKit
namespace Rq
/-- What is left to a reader, and whether it has failed. -/
abbrev St := List Nat × Bool
def nx (s : St) (k : Nat) : St := (Pk.left s.2 s.1 k, Pk.fails s.2 s.1 k)
def vl (s : St) (k : Nat) : Nat := Pk.num (Pk.taken s.2 s.1 k)
def tx (s : St) : St := (Pk.tleft s.2 s.1, Pk.tfails s.2 s.1)
def tt (s : St) : ByteArray := textOf (Pk.ttaken s.2 s.1)
/-- What has been taken of a request so far. -/
structure Sg where
  x : V
  s : St
def Sg.step (σ : Sg) (i : Nat) : Sg :=
  if i = 2 then ⟨{ σ.x with pg := vl σ.s 1 }, nx σ.s 1⟩ else if i = 3 then ⟨{ σ.x with du := vl σ.s 2 }, nx σ.s 2⟩ else if i = 4 then ⟨{ σ.x with at_ := vl σ.s 8 }, nx σ.s 8⟩ else if i = 5 then ⟨{ σ.x with le := vl σ.s 8 }, nx σ.s 8⟩
  else if i = 6 then ⟨{ σ.x with so := vl σ.s 1 }, nx σ.s 1⟩ else if i = 7 then ⟨{ σ.x with ky := tt σ.s }, tx σ.s⟩ else if i = 8 then ⟨{ σ.x with to := tt σ.s }, tx σ.s⟩ else if i = 9 then ⟨{ σ.x with lo := sg (vl σ.s 8) }, nx σ.s 8⟩ else ⟨{ σ.x with hi := sg (vl σ.s 8) }, nx σ.s 8⟩
def s0 (b : List Nat) : Sg := ⟨only (vl (b, false) 1) (vl (nx (b, false) 1) 4), nx (nx (b, false) 1) 4⟩
def fin (b : List Nat) : Sg := (fparts (s0 b).x.k).foldl Sg.step (s0 b)
/-- Is the first byte, if there is one, no kind? -/
def tag (b : List Nat) : Bool := match b with | [] => false | y :: _ => !isK y
def Sg.done (σ : Sg) : Int := doneOf σ.s.2 σ.s.1.length
def Sg.err (σ : Sg) : Int := if σ.done = 0 then (if σ.x.right then 0 else 81) else σ.done
def pse (b : List Nat) : Int := if tag b then 80 else (fin b).err
def psx (b : List Nat) : V := if pse b = 0 then (fin b).x else only 0 0
def idOf (b : List Nat) : Nat := if b.length < 5 then 0 else Pk.num ((b.drop 1).take 4)
/-- Numbers are as great as they may be. -/
def St.ok (s : St) : Prop := ∀ y ∈ s.1, y < 256
theorem nx_ok {s : St} (h : St.ok s) (k : Nat) : St.ok (nx s k) := Pk.left_lt s.2 s.1 k h
theorem tx_ok {s : St} (h : St.ok s) : St.ok (tx s) := by
  intro y hy
  unfold tx at hy
  dsimp only at hy
  unfold Pk.tleft at hy
  split at hy
  · exact h y hy
  · exact h y (List.mem_of_mem_drop hy)
theorem vl_lt {s : St} (h : St.ok s) (k : Nat) : vl s k < 256 ^ k := Pk.taken_num_lt s.2 s.1 k h
theorem sg_ok (m : Nat) : -9223372036854775808 ≤ sg m ∧ sg m ≤ 9223372036854775807 := by
  unfold sg
  rw [IntKind.wrap_i64]
  omega
theorem only_ok {k id : Nat} (hk : k < 256) (hi : id < 4294967296) : (only k id).ok :=
  ⟨hk, hi, by show 0 < 256; omega, by show 0 < 65536; omega, by show 0 < 18446744073709551616; omega, by show 0 < 18446744073709551616; omega, by show 0 < 256; omega, by show (-9223372036854775808 : Int) ≤ 0 ∧ (0 : Int) ≤ 9223372036854775807; omega, by show (-9223372036854775808 : Int) ≤ 0 ∧ (0 : Int) ≤ 9223372036854775807; omega⟩
theorem Sg.step_ok {σ : Sg} {i : Nat} (hi : 2 ≤ i ∧ i ≤ 10) (h : σ.x.ok ∧ St.ok σ.s) : (σ.step i).x.ok ∧ St.ok (σ.step i).s ∧ (σ.step i).x.k = σ.x.k ∧ (σ.step i).x.id = σ.x.id := by
  obtain ⟨⟨o0, o1, o2, o3, o4, o5, o6, o7, o8⟩, hs⟩ := h
  rcases field_cases hi with rfl | rfl | rfl | rfl | rfl | rfl | rfl | rfl | rfl
  · exact ⟨⟨o0, o1, vl_lt hs 1, o3, o4, o5, o6, o7, o8⟩, nx_ok hs 1, rfl, rfl⟩
  · exact ⟨⟨o0, o1, o2, vl_lt hs 2, o4, o5, o6, o7, o8⟩, nx_ok hs 2, rfl, rfl⟩
  · exact ⟨⟨o0, o1, o2, o3, vl_lt hs 8, o5, o6, o7, o8⟩, nx_ok hs 8, rfl, rfl⟩
  · exact ⟨⟨o0, o1, o2, o3, o4, vl_lt hs 8, o6, o7, o8⟩, nx_ok hs 8, rfl, rfl⟩
  · exact ⟨⟨o0, o1, o2, o3, o4, o5, vl_lt hs 1, o7, o8⟩, nx_ok hs 1, rfl, rfl⟩
  · exact ⟨⟨o0, o1, o2, o3, o4, o5, o6, o7, o8⟩, tx_ok hs, rfl, rfl⟩
  · exact ⟨⟨o0, o1, o2, o3, o4, o5, o6, o7, o8⟩, tx_ok hs, rfl, rfl⟩
  · exact ⟨⟨o0, o1, o2, o3, o4, o5, o6, sg_ok _, o8⟩, nx_ok hs 8, rfl, rfl⟩
  · exact ⟨⟨o0, o1, o2, o3, o4, o5, o6, o7, sg_ok _⟩, nx_ok hs 8, rfl, rfl⟩
theorem Sg.steps_ok {σ : Sg} (l : List Nat) (hl : ∀ i ∈ l, 2 ≤ i ∧ i ≤ 10) (h : σ.x.ok ∧ St.ok σ.s) : (l.foldl Sg.step σ).x.ok ∧ St.ok (l.foldl Sg.step σ).s ∧ (l.foldl Sg.step σ).x.k = σ.x.k ∧ (l.foldl Sg.step σ).x.id = σ.x.id := by
  induction l generalizing σ with
  | nil => exact ⟨h.1, h.2, rfl, rfl⟩
  | cons i l ih =>
    obtain ⟨h1, h2, h3, h4⟩ := Sg.step_ok (hl i (List.mem_cons_self ..)) h
    obtain ⟨g1, g2, g3, g4⟩ := ih (fun j hj => hl j (List.mem_cons_of_mem _ hj)) ⟨h1, h2⟩
    exact ⟨g1, g2, g3.trans h3, g4.trans h4⟩
theorem s0_ok {b : List Nat} (h : ∀ y ∈ b, y < 256) : (s0 b).x.ok ∧ St.ok (s0 b).s := by
  have h0 : St.ok (b, false) := h
  exact ⟨only_ok (vl_lt h0 1) (vl_lt (nx_ok h0 1) 4), nx_ok (nx_ok h0 1) 4⟩
theorem fin_ok {b : List Nat} (h : ∀ y ∈ b, y < 256) : (fin b).x.ok ∧ (fin b).x.k = (s0 b).x.k ∧ (fin b).x.id = (s0 b).x.id := by
  obtain ⟨h1, -, h3, h4⟩ := Sg.steps_ok (fparts (s0 b).x.k) (fparts_lt _) (s0_ok h)
  exact ⟨h1, h3, h4⟩
theorem psx_ok {b : List Nat} (h : ∀ y ∈ b, y < 256) : (psx b).ok := by
  unfold psx
  split
  · exact (fin_ok h).1
  · exact only_ok (by omega) (by omega)
theorem textOf_nums (s : ByteArray) : textOf (nums s) = s := by
  have h : ∀ l : List UInt8, (l.map UInt8.toNat).map UInt8.ofNat = l := by
    intro l
    induction l with
    | nil => rfl
    | cons a t ih => rw [List.map_cons, List.map_cons, ih, UInt8.ofNat_toNat]
  apply ByteArray.ext
  show ((s.data.toList.map UInt8.toNat).map UInt8.ofNat).toArray = s.data
  rw [h]
theorem nums_textOf {l : List Nat} (h : ∀ x ∈ l, x < 256) : nums (textOf l) = l := by
  have : ∀ k : List Nat, (∀ x ∈ k, x < 256) → (k.map UInt8.ofNat).map UInt8.toNat = k := by
    intro k
    induction k with
    | nil => intro _; rfl
    | cons a t ih =>
      intro hk
      rw [List.map_cons, List.map_cons, ih (fun x hx => hk x (by simp [hx])), UInt8.toNat_ofNat_of_lt' (hk a (by simp))]
  exact this l h
theorem sg_u {x : Int} (h : -9223372036854775808 ≤ x ∧ x ≤ 9223372036854775807) : sg (u x) = x := by
  unfold sg
  rw [← u_eq]
  simp only [IntKind.wrap, IntKind.bits, IntKind.signed]
  simp
  split <;> omega
theorem u_sg {m : Nat} (h : m < 18446744073709551616) : u (sg m) = m := by
  have e : (sg m) % 18446744073709551616 = (m : Int) := by
    unfold sg
    simp only [IntKind.wrap, IntKind.bits, IntKind.signed]
    simp
    split <;> omega
  unfold u
  rw [e]
  rfl
theorem be_num (l : List Nat) (h : ∀ x ∈ l, x < 256) : Pk.be l.length (Pk.num l) = l := by
  induction l with
  | nil => rfl
  | cons x t ih =>
    have hx := h x (by simp)
    have ht := Pk.num_lt t (fun y hy => h y (by simp [hy]))
    have e := ih (fun y hy => h y (by simp [hy]))
    rw [Pk.num_cons, List.length_cons, Pk.be]
    have e1 : (x * 256 ^ t.length + Pk.num t) / 256 ^ t.length = x := by
      rw [Nat.mul_comm, Nat.mul_add_div (Nat.pow_pos (by omega)), Nat.div_eq_of_lt ht]; rfl
    rw [e1, Nat.mod_eq_of_lt hx]
    congr 1
    rw [← Pk.be_mod t.length t.length _ (Nat.le_refl _), Nat.mul_comm, Nat.mul_add_mod, Nat.mod_eq_of_lt ht]
    exact e
theorem nx_at (k v : Nat) (r : List Nat) : nx (Pk.be k v ++ r, false) k = (r, false) := by
  have h1 := Pk.left_at (Pk.be k v) r
  have h2 := Pk.fails_at (Pk.be k v) r
  rw [Pk.be_len] at h1 h2
  unfold nx
  dsimp only
  rw [h1, h2]
theorem vl_at (k v : Nat) (r : List Nat) (h : v < 256 ^ k) : vl (Pk.be k v ++ r, false) k = v := by
  have h1 := Pk.taken_at (Pk.be k v) r
  rw [Pk.be_len] at h1
  unfold vl
  dsimp only
  rw [h1, Pk.num_be, Nat.mod_eq_of_lt h]
theorem tx_at (k : ByteArray) (r : List Nat) (h : k.size < 65536) : tx (Pk.tx (nums k) ++ r, false) = (r, false) ∧ tt (Pk.tx (nums k) ++ r, false) = k := by
  have hl : (nums k).length < 65536 := by rw [nums_len]; exact h
  constructor
  · exact Prod.ext (Pk.tleft_at _ _ hl) (Pk.tfails_at _ _ hl)
  · unfold tt
    dsimp only
    rw [Pk.ttaken_at _ _ hl, textOf_nums]
theorem u_pow (x : Int) : u x < 256 ^ 8 := u_lt x
/-- A request with one field of another one. -/
def V.copy (y x : V) (i : Nat) : V :=
  if i = 2 then { y with pg := x.pg } else if i = 3 then { y with du := x.du } else if i = 4 then { y with at_ := x.at_ } else if i = 5 then { y with le := x.le } else if i = 6 then { y with so := x.so }
  else if i = 7 then { y with ky := x.ky } else if i = 8 then { y with to := x.to } else if i = 9 then { y with lo := x.lo } else { y with hi := x.hi }
theorem step_at (y x : V) (i : Nat) (r : List Nat) (hi : 2 ≤ i ∧ i ≤ 10) (ok : x.ok) (h1 : x.ky.size < 65536) (h2 : x.to.size < 65536) : Sg.step ⟨y, (x.enc i ++ r, false)⟩ i = ⟨y.copy x i, (r, false)⟩ := by
  obtain ⟨o0, o1, o2, o3, o4, o5, o6, o7, o8⟩ := ok
  rcases field_cases hi with rfl | rfl | rfl | rfl | rfl | rfl | rfl | rfl | rfl
  · show Sg.mk { y with pg := vl (Pk.be 1 x.pg ++ r, false) 1 } (nx (Pk.be 1 x.pg ++ r, false) 1) = _
    rw [nx_at, vl_at _ _ _ o2]; rfl
  · show Sg.mk { y with du := vl (Pk.be 2 x.du ++ r, false) 2 } (nx (Pk.be 2 x.du ++ r, false) 2) = _
    rw [nx_at, vl_at _ _ _ o3]; rfl
  · show Sg.mk { y with at_ := vl (Pk.be 8 x.at_ ++ r, false) 8 } (nx (Pk.be 8 x.at_ ++ r, false) 8) = _
    rw [nx_at, vl_at _ _ _ o4]; rfl
  · show Sg.mk { y with le := vl (Pk.be 8 x.le ++ r, false) 8 } (nx (Pk.be 8 x.le ++ r, false) 8) = _
    rw [nx_at, vl_at _ _ _ o5]; rfl
  · show Sg.mk { y with so := vl (Pk.be 1 x.so ++ r, false) 1 } (nx (Pk.be 1 x.so ++ r, false) 1) = _
    rw [nx_at, vl_at _ _ _ o6]; rfl
  · show Sg.mk { y with ky := tt (Pk.tx (nums x.ky) ++ r, false) } (tx (Pk.tx (nums x.ky) ++ r, false)) = _
    rw [(tx_at _ _ h1).1, (tx_at _ _ h1).2]; rfl
  · show Sg.mk { y with to := tt (Pk.tx (nums x.to) ++ r, false) } (tx (Pk.tx (nums x.to) ++ r, false)) = _
    rw [(tx_at _ _ h2).1, (tx_at _ _ h2).2]; rfl
  · show Sg.mk { y with lo := sg (vl (Pk.be 8 (u x.lo) ++ r, false) 8) } (nx (Pk.be 8 (u x.lo) ++ r, false) 8) = _
    rw [nx_at, vl_at _ _ _ (u_pow _), sg_u o7]; rfl
  · show Sg.mk { y with hi := sg (vl (Pk.be 8 (u x.hi) ++ r, false) 8) } (nx (Pk.be 8 (u x.hi) ++ r, false) 8) = _
    rw [nx_at, vl_at _ _ _ (u_pow _), sg_u o8]; rfl
theorem steps_at (y x : V) (l : List Nat) (r : List Nat) (hl : ∀ i ∈ l, 2 ≤ i ∧ i ≤ 10) (ok : x.ok) (h1 : x.ky.size < 65536) (h2 : x.to.size < 65536) : l.foldl Sg.step ⟨y, ((l.map x.enc).flatten ++ r, false)⟩ = ⟨l.foldl (fun y i => y.copy x i) y, (r, false)⟩ := by
  induction l generalizing y with
  | nil => rfl
  | cons i l ih =>
    rw [List.map_cons, List.flatten_cons, List.append_assoc, List.foldl_cons, step_at y x i _ (hl i (List.mem_cons_self ..)) ok h1 h2, ih _ (fun j hj => hl j (List.mem_cons_of_mem _ hj))]
    rfl
theorem copies (x : V) (hk : isK x.k = true) : (fparts x.k).foldl (fun y i => y.copy x i) (only x.k x.id) = x.keep := by
  obtain ⟨k, id, pg, du, a, l, s, ky, to, lo, hi⟩ := x
  dsimp only at hk
  rcases isK_cases hk with rfl | rfl | rfl | rfl | rfl | rfl | rfl | rfl <;> rfl
theorem s0_at (x : V) (r : List Nat) (hk : x.k < 256) (hi : x.id < 4294967296) : s0 (x.bytes ++ r) = ⟨only x.k x.id, (((fparts x.k).map x.enc).flatten ++ r, false)⟩ := by
  have e : x.bytes ++ r = Pk.be 1 x.k ++ (Pk.be 4 x.id ++ (((fparts x.k).map x.enc).flatten ++ r)) := by simp [V.bytes, V.chunks]
  unfold s0
  rw [e, nx_at, vl_at _ _ _ hk, nx_at, vl_at _ _ _ hi]
theorem fin_at (x : V) (r : List Nat) (ok : x.ok) (h : x.right = true) : fin (x.bytes ++ r) = ⟨x, (r, false)⟩ := by
  obtain ⟨h1, h2⟩ := V.right_keys h
  obtain ⟨hk, -, -, -, h5⟩ := x.right_iff.1 h
  unfold fin
  rw [s0_at x r ok.1 ok.2.1]
  show (fparts x.k).foldl Sg.step _ = _
  rw [steps_at _ x _ r (fparts_lt _) ok (by omega) (by omega), copies x hk, h5]
theorem tag_at (x : V) (r : List Nat) (hk : x.k < 256) (h : isK x.k = true) : tag (x.bytes ++ r) = false := by
  have e : x.bytes ++ r = x.k % 256 :: (Pk.be 4 x.id ++ (((fparts x.k).map x.enc).flatten ++ r)) := by simp [V.bytes, V.chunks, Pk.be]
  rw [e, Nat.mod_eq_of_lt hk]
  show (!isK x.k) = false
  rw [h]
  rfl
/-- What is packed is parsed as it was. -/
theorem back (x : V) (ok : x.ok) (h : x.right = true) : pse x.bytes = 0 ∧ psx x.bytes = x := by
  have h1 := fin_at x [] ok h
  have h2 := tag_at x [] ok.1 (x.right_iff.1 h).1
  rw [List.append_nil] at h1 h2
  have e : pse x.bytes = 0 := by
    unfold pse
    rw [h2, h1]
    unfold Sg.err Sg.done
    dsimp only
    rw [h]
    rfl
  refine ⟨e, ?_⟩
  unfold psx
  rw [if_pos e, h1]
/-- With a byte behind it something is left. -/
theorem rest (x : V) (ok : x.ok) (h : x.right = true) : pse (x.bytes ++ [0]) = 21 := by
  unfold pse
  rw [tag_at x [0] ok.1 (x.right_iff.1 h).1, fin_at x [0] ok h]
  rfl
/-- No request is packed as the beginning of another one. -/
theorem apart (x y : V) (okx : x.ok) (oky : y.ok) (hx : x.right = true) (hy : y.right = true) (r : List Nat) (h : y.bytes = x.bytes ++ r) : x = y := by
  have h1 := fin_at x r okx hx
  have h2 := fin_at y [] oky hy
  rw [List.append_nil, h, h1] at h2
  injection h2
/-- What is short of the last byte fails. -/
theorem Short_field {l rem : List Nat} {f : Bool} (x y : V) (i : Nat) (hi : 2 ≤ i ∧ i ≤ 10) (h1 : x.ky.size < 65536) (h2 : x.to.size < 65536) (h : Pk.Short l f (x.enc i ++ rem)) : Pk.Short (Sg.step ⟨y, (l, f)⟩ i).s.1 (Sg.step ⟨y, (l, f)⟩ i).s.2 rem := by
  have hb : ∀ k n, 0 < k → Pk.Short l f (Pk.be k n ++ rem) → Pk.Short (nx (l, f) k).1 (nx (l, f) k).2 rem := fun k n h0 hs => by
    have := Pk.Short.take hs (by intro e; have := congrArg List.length e; rw [Pk.be_len] at this; simp at this; omega)
    rw [Pk.be_len] at this
    exact this
  have ht : ∀ s : ByteArray, s.size < 65536 → Pk.Short l f (Pk.tx (nums s) ++ rem) → Pk.Short (tx (l, f)).1 (tx (l, f)).2 rem := fun s hz hs => Pk.Short.text hs (by rw [nums_len]; exact hz)
  rcases field_cases hi with rfl | rfl | rfl | rfl | rfl | rfl | rfl | rfl | rfl
  · exact hb 1 x.pg (by omega) h
  · exact hb 2 x.du (by omega) h
  · exact hb 8 x.at_ (by omega) h
  · exact hb 8 x.le (by omega) h
  · exact hb 1 x.so (by omega) h
  · exact ht x.ky h1 h
  · exact ht x.to h2 h
  · exact hb 8 (u x.lo) (by omega) h
  · exact hb 8 (u x.hi) (by omega) h
theorem Short_fields {l' rem : List Nat} {f : Bool} (x y : V) (l : List Nat) (hl : ∀ i ∈ l, 2 ≤ i ∧ i ≤ 10) (h1 : x.ky.size < 65536) (h2 : x.to.size < 65536) (h : Pk.Short l' f ((l.map x.enc).flatten ++ rem)) : Pk.Short (l.foldl Sg.step ⟨y, (l', f)⟩).s.1 (l.foldl Sg.step ⟨y, (l', f)⟩).s.2 rem := by
  induction l generalizing y l' f with
  | nil => exact h
  | cons i l ih =>
    rw [List.map_cons, List.flatten_cons, List.append_assoc] at h
    exact ih _ (fun j hj => hl j (List.mem_cons_of_mem _ hj)) (Short_field x y i (hl i (List.mem_cons_self ..)) h1 h2 h)
theorem short (x : V) (ok : x.ok) (h : x.right = true) : pse x.bytes.dropLast = 20 := by
  obtain ⟨h1, h2⟩ := V.right_keys h
  obtain ⟨hk, -⟩ := x.right_iff.1 h
  have e : x.bytes = x.k % 256 :: (Pk.be 4 x.id ++ ((fparts x.k).map x.enc).flatten) := by simp [V.bytes, V.chunks, Pk.be]
  have ek : x.k % 256 = x.k := Nat.mod_eq_of_lt ok.1
  rw [ek] at e
  have ne : Pk.be 4 x.id ++ ((fparts x.k).map x.enc).flatten ≠ [] := by
    intro h
    have := congrArg List.length h
    rw [List.length_append, Pk.be_len] at this
    simp at this
  have hd : x.bytes.dropLast = x.k :: (Pk.be 4 x.id ++ ((fparts x.k).map x.enc).flatten).dropLast := by
    rw [e, List.dropLast_cons_of_ne_nil ne]
  have htag : tag x.bytes.dropLast = false := by
    rw [hd]
    show (!isK x.k) = false
    rw [hk]
    rfl
  have hS : Pk.Short x.bytes.dropLast false (Pk.be 1 x.k ++ (Pk.be 4 x.id ++ (((fparts x.k).map x.enc).flatten ++ []))) := by
    refine .inr ⟨rfl, by simp [Pk.be], ?_⟩
    congr 1
    simp [V.bytes, V.chunks]
  have hS1 := Pk.Short.take hS (by simp [Pk.be])
  have hS2 := Pk.Short.take hS1 (by intro h; have := congrArg List.length h; rw [Pk.be_len] at this; simp at this)
  rw [Pk.be_len, Pk.be_len] at hS2
  have hv : vl (x.bytes.dropLast, false) 1 = x.k := by
    rw [hd]
    have h1 := Pk.taken_at [x.k] (Pk.be 4 x.id ++ ((fparts x.k).map x.enc).flatten).dropLast
    unfold vl
    have e : Pk.taken false (x.k :: (Pk.be 4 x.id ++ ((fparts x.k).map x.enc).flatten).dropLast) 1 = [x.k] := h1
    dsimp only
    rw [e]
    simp [Pk.num]
  have hk0 : (s0 x.bytes.dropLast).x.k = x.k := hv
  have hfin := Short_fields x (s0 x.bytes.dropLast).x (fparts x.k) (fparts_lt _) (by omega) (by omega) hS2
  have hf : (fin x.bytes.dropLast).s.2 = true := by
    unfold fin
    rw [hk0]
    exact Pk.Short.end_ hfin
  unfold pse
  rw [htag]
  unfold Sg.err Sg.done
  rw [hf]
  rfl
/-- What is taken without failing is what is packed. -/
theorem nx_packs {s : St} {k : Nat} (hs : St.ok s) (h : (nx s k).2 = false) : s.2 = false ∧ s.1 = Pk.be k (vl s k) ++ (nx s k).1 ∧ (nx s k).2 = false := by
  obtain ⟨l, f⟩ := s
  have hf : Pk.fails f l k = false := h
  obtain ⟨h1, h2⟩ := Pk.fails_iff.1 hf
  refine ⟨h1, ?_, h⟩
  show l = Pk.be k (Pk.num (Pk.taken f l k)) ++ Pk.left f l k
  rw [Pk.taken_no hf, Pk.left_no hf]
  have := be_num (l.take k) (fun y hy => hs y (List.mem_of_mem_take hy))
  rw [List.length_take, Nat.min_eq_left h2] at this
  rw [this, List.take_append_drop]
theorem tx_packs {s : St} (hs : St.ok s) (h : (tx s).2 = false) : s.2 = false ∧ s.1 = Pk.tx (nums (tt s)) ++ (tx s).1 := by
  obtain ⟨l, f⟩ := s
  have hf : Pk.tfails f l = false := h
  obtain ⟨h1, h2⟩ := Pk.tfails_iff.1 hf
  obtain ⟨h3, h4⟩ := Pk.fails_iff.1 h1
  refine ⟨h3, ?_⟩
  show l = Pk.tx (nums (textOf (Pk.ttaken f l))) ++ Pk.tleft f l
  rw [Pk.ttaken_no hf, Pk.tleft_no hf, nums_textOf (fun y hy => hs y (List.mem_of_mem_drop (List.mem_of_mem_take hy)))]
  unfold Pk.tx
  have e1 : ((l.drop 2).take (Pk.tlen f l)).length = Pk.tlen f l := by rw [List.length_take, List.length_drop]; omega
  rw [e1]
  have e2 : Pk.be 2 (Pk.tlen f l) = l.take 2 := by
    unfold Pk.tlen
    rw [Pk.taken_no h1]
    have := be_num (l.take 2) (fun y hy => hs y (List.mem_of_mem_take hy))
    rw [List.length_take, Nat.min_eq_left h4] at this
    exact this
  rw [e2, List.append_assoc, ← List.drop_drop, List.take_append_drop, List.take_append_drop]
theorem u_sg_vl {s : St} (hs : St.ok s) : u (sg (vl s 8)) = vl s 8 := u_sg (vl_lt hs 8)
theorem step_packs {σ : Sg} {i : Nat} (hi : 2 ≤ i ∧ i ≤ 10) (hs : St.ok σ.s) (h : (σ.step i).s.2 = false) : σ.s.2 = false ∧ σ.s.1 = (σ.step i).x.enc i ++ (σ.step i).s.1 := by
  rcases field_cases hi with rfl | rfl | rfl | rfl | rfl | rfl | rfl | rfl | rfl
  · have := nx_packs (k := 1) hs h; exact ⟨this.1, this.2.1⟩
  · have := nx_packs (k := 2) hs h; exact ⟨this.1, this.2.1⟩
  · have := nx_packs (k := 8) hs h; exact ⟨this.1, this.2.1⟩
  · have := nx_packs (k := 8) hs h; exact ⟨this.1, this.2.1⟩
  · have := nx_packs (k := 1) hs h; exact ⟨this.1, this.2.1⟩
  · exact tx_packs hs h
  · exact tx_packs hs h
  · have := nx_packs (k := 8) hs h
    refine ⟨this.1, ?_⟩
    show σ.s.1 = Pk.be 8 (u (sg (vl σ.s 8))) ++ _
    rw [u_sg_vl hs]
    exact this.2.1
  · have := nx_packs (k := 8) hs h
    refine ⟨this.1, ?_⟩
    show σ.s.1 = Pk.be 8 (u (sg (vl σ.s 8))) ++ _
    rw [u_sg_vl hs]
    exact this.2.1
theorem step_far {σ : Sg} {i j : Nat} (hi : 2 ≤ i ∧ i ≤ 10) (hj : 2 ≤ j ∧ j ≤ 10) (hne : j ≠ i) : (σ.step j).x.enc i = σ.x.enc i := by
  rcases field_cases hi with rfl | rfl | rfl | rfl | rfl | rfl | rfl | rfl | rfl <;> rcases field_cases hj with rfl | rfl | rfl | rfl | rfl | rfl | rfl | rfl | rfl <;> first | rfl | exact absurd rfl hne
theorem steps_far {σ : Sg} {i : Nat} (l : List Nat) (hi : 2 ≤ i ∧ i ≤ 10) (hl : ∀ j ∈ l, 2 ≤ j ∧ j ≤ 10) (hn : i ∉ l) : (l.foldl Sg.step σ).x.enc i = σ.x.enc i := by
  induction l generalizing σ with
  | nil => rfl
  | cons j l ih =>
    rw [List.foldl_cons, ih (fun q hq => hl q (List.mem_cons_of_mem _ hq)) (fun h => hn (List.mem_cons_of_mem _ h))]
    exact step_far hi (hl j (List.mem_cons_self ..)) (fun e => hn (e ▸ List.mem_cons_self ..))
theorem steps_packs {σ : Sg} (l : List Nat) (hl : ∀ j ∈ l, 2 ≤ j ∧ j ≤ 10) (hn : l.Nodup) (hs : σ.x.ok ∧ St.ok σ.s) (h : (l.foldl Sg.step σ).s.2 = false) : σ.s.2 = false ∧ σ.s.1 = (l.map (l.foldl Sg.step σ).x.enc).flatten ++ (l.foldl Sg.step σ).s.1 := by
  induction l generalizing σ with
  | nil => exact ⟨h, rfl⟩
  | cons i l ih =>
    have hi := hl i (List.mem_cons_self ..)
    have hl' := fun j hj => hl j (List.mem_cons_of_mem _ hj)
    obtain ⟨n1, n2⟩ := List.nodup_cons.1 hn
    obtain ⟨k1, k2, -, -⟩ := Sg.step_ok hi hs
    obtain ⟨h1, h2⟩ := ih hl' n2 ⟨k1, k2⟩ h
    obtain ⟨h3, h4⟩ := step_packs hi hs.2 h1
    refine ⟨h3, ?_⟩
    rw [List.foldl_cons, List.map_cons, List.flatten_cons, List.append_assoc, ← h2, steps_far l hi hl' n1]
    exact h4
theorem fparts_nodup (k : Nat) : (fparts k).Nodup := by
  cases hK : isK k
  · unfold fparts; rw [letters_no hK]; exact List.nodup_nil
  · rcases isK_cases hK with rfl | rfl | rfl | rfl | rfl | rfl | rfl | rfl <;> decide
/-- What is parsed is right, and packed as the same bytes; its id is the one that Id tells. -/
theorem forth {b : List Nat} (hb : ∀ y ∈ b, y < 256) (h : pse b = 0) : (psx b).right = true ∧ (psx b).bytes = b ∧ (psx b).id = idOf b ∧ (psx b).ok := by
  have e0 : psx b = (fin b).x := if_pos h
  have htag : tag b = false := by
    rcases Bool.eq_false_or_eq_true (tag b) with ht | ht
    · unfold pse at h; rw [ht, if_pos rfl] at h; exact absurd h (by decide)
    · exact ht
  unfold pse at h
  rw [htag] at h
  have h' : (fin b).err = 0 := h
  unfold Sg.err at h'
  have hd : (fin b).done = 0 := by
    rcases Decidable.em ((fin b).done = 0) with h1 | h1
    · exact h1
    · rw [if_neg h1] at h'; exact absurd h' h1
  rw [if_pos hd] at h'
  have hr : (fin b).x.right = true := by
    rcases Bool.eq_false_or_eq_true (fin b).x.right with h1 | h1
    · exact h1
    · rw [h1] at h'; exact absurd h' (by decide)
  unfold Sg.done doneOf at hd
  have hf : (fin b).s.2 = false := by
    rcases Bool.eq_false_or_eq_true (fin b).s.2 with h1 | h1
    · rw [if_pos h1] at hd; exact absurd hd (by decide)
    · exact h1
  rw [hf] at hd
  have hz : (fin b).s.1 = [] := by
    rcases Nat.eq_zero_or_pos (fin b).s.1.length with h1 | h1
    · exact List.eq_nil_of_length_eq_zero h1
    · rw [if_neg (by decide), if_pos h1] at hd; exact absurd hd (by decide)
  have s0k := s0_ok hb
  obtain ⟨f1, f2, f3⟩ := fin_ok hb
  obtain ⟨g1, g2⟩ := steps_packs (fparts (s0 b).x.k) (fparts_lt _) (fparts_nodup _) s0k hf
  have hb0 : St.ok (b, false) := hb
  obtain ⟨a1, a2, a3⟩ := nx_packs (nx_ok hb0 1) g1
  obtain ⟨c1, c2, c3⟩ := nx_packs hb0 a1
  have hk : (fin b).x.k = vl (b, false) 1 := f2
  have hid : (fin b).x.id = vl (nx (b, false) 1) 4 := f3
  have hrest : (nx (nx (b, false) 1) 4).1 = ((fparts (fin b).x.k).map (fin b).x.enc).flatten := by
    have e : (fin b).x.k = (s0 b).x.k := f2
    rw [e]
    have e2 : (s0 b).s.1 = ((fparts (s0 b).x.k).map (fin b).x.enc).flatten ++ (fin b).s.1 := g2
    rw [hz, List.append_nil] at e2
    exact e2
  have hbytes : (fin b).x.bytes = b := by
    have e : (fin b).x.bytes = Pk.be 1 (fin b).x.k ++ (Pk.be 4 (fin b).x.id ++ ((fparts (fin b).x.k).map (fin b).x.enc).flatten) := by simp [V.bytes, V.chunks]
    rw [e, ← hrest, hk, hid, ← a2]
    exact c2.symm
  rw [e0]
  refine ⟨hr, hbytes, ?_, f1⟩
  have h5 := (V.bytes_le hr).2
  rw [hbytes] at h5
  unfold idOf
  rw [if_neg (by omega), hid]
  unfold vl
  have hn : nx (b, false) 1 = (b.drop 1, false) := by
    unfold nx
    have hf1 : Pk.fails false b 1 = false := Pk.fails_no (by omega)
    dsimp only
    rw [hf1, Pk.left_no hf1]
  rw [hn]
  dsimp only
  rw [Pk.taken_no (Pk.fails_no (by rw [List.length_drop]; omega))]
theorem idOf_at (x : V) (ok : x.ok) (h : x.right = true) : idOf x.bytes = x.id := by
  obtain ⟨h1, h2⟩ := back x ok h
  have := (forth x.bytes_lt h1).2.2.1
  rw [h2] at this
  exact this.symm
end Rq
end Go.Proofs.YtgailpljcobabaaDoor
