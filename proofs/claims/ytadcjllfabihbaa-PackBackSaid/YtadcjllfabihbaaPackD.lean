/- A reader in memory: how it is made, and what it takes. -/
import Derived.Test.YtadcjllfabihbaaPackC
namespace Go.Proofs.Ytadcjllfabihbaa
open Go.ChangeShapes Go.WideShapes Go.ChangeAt Go.RowKit

/-- A reader at block g: it stands at l, and has failed or not; its bytes lie from block lo on, below g. -/
def Rd (w : World) (lo g : Nat) (l : List Nat) (f : Bool) : Prop :=
  ∃ A n c, Blk w g 67 #[.slice A n c, .bool f] ∧ Bytes w g A n l ∧ n ≤ c ∧ n ≤ 1000000 ∧ ∀ b off s, A = some ⟨b, off, s⟩ → lo ≤ b
theorem Rd.lt {w : World} {lo g : Nat} {l : List Nat} {f : Bool} (h : Rd w lo g l f) : ∀ x ∈ l, x < 256 := by
  obtain ⟨A, n, c, _, hb, _⟩ := h
  exact hb.2.1
theorem Rd.len {w : World} {lo g : Nat} {l : List Nat} {f : Bool} (h : Rd w lo g l f) : l.length ≤ 1000000 := by
  obtain ⟨A, n, c, _, hb, _, hn, _⟩ := h
  have := hb.1
  omega
theorem Rd.here {w : World} {lo g : Nat} {l : List Nat} {f : Bool} (h : Rd w lo g l f) : g < w.heap.size := by
  obtain ⟨A, n, c, hb, _⟩ := h
  exact hb.lt
theorem Bytes.keepIn {w w' : World} {B n lo : Nat} {A : Option Addr} {l : List Nat} (h : Bytes w B A n l) (hlo : ∀ b off s, A = some ⟨b, off, s⟩ → lo ≤ b) (hk : ∀ b o, lo ≤ b → b < B → w'.cell? ⟨b, o, none⟩ = w.cell? ⟨b, o, none⟩) : Bytes w' B A n l :=
  ⟨h.1, h.2.1, fun hn => by
    obtain ⟨b, off, e, hb, hc⟩ := h.2.2 hn
    exact ⟨b, off, e, hb, fun i hi => (hk b _ (hlo b off none e) hb).trans (hc i hi)⟩⟩
/-- What another block does leaves a reader as it is. -/
theorem Rd.kept {w w' : World} {lo g h : Nat} {l : List Nat} {f : Bool} (hr : Rd w lo g l f) (hg : w.grownBy w' (some h)) (hh : g < h ∨ h < lo) (hlg : lo ≤ g) : Rd w' lo g l f := by
  have hlt := hr.here
  obtain ⟨A, n, c, hb, hy, h1, h2, h3⟩ := hr
  have hblk : ∀ k, lo ≤ k → k ≤ g → w'.heap[k]? = w.heap[k]? := fun k hk1 hk2 => hg.block k (by omega) (fun e => by injection e with e; omega)
  exact ⟨A, n, c, (hblk g (by omega) (Nat.le_refl _)).trans hb, hy.keepIn h3 (fun b o hb1 hb2 => World.cell?_of_block (a := ⟨b, o, none⟩) (hblk b hb1 (by omega))), h1, h2, h3⟩
theorem Rd.below {w w' : World} {lo g B : Nat} {l : List Nat} {f : Bool} (hr : Rd w lo g l f) (hb : Below B w w') (hg : g < B) : Rd w' lo g l f := by
  obtain ⟨A, n, c, hk, hy, h1, h2, h3⟩ := hr
  exact ⟨A, n, c, hk.below hb hg, hy.below hb (by omega), h1, h2, h3⟩

theorem run_eql_none {P : Program} (w : World) (t e : TypeId) (a : Option Addr) (l c : Nat) (h : P.underlying t = some (.slice e)) : (binOp .eql t (.slice a l c) (.slice none 0 0)).run P w = .ok (.bool a.isNone) w := by
  have h0 : ∀ d, (Op.equalIn (d + 1) t (.slice a l c) (.slice none 0 0)).run P w = .ok a.isNone w := fun d => by
    cases a <;> simp [Op.equalIn, run_underlying h]
  have h1 : (Op.equal t (.slice a l c) (.slice none 0 0)).run P w = .ok a.isNone w := h0 9999
  simp [binOp, h1]
def OfPost (w : World) (l : List Nat) (e : Ending) (w' : World) : Prop := ∃ g, e = .returned (.pointer (some ⟨g, 0, none⟩)) ∧ Rd w' w.heap.size g l false ∧ w.heap.size ≤ g ∧ Below w.heap.size w w'

theorem clone_any (n c B : Nat) (A : Option Addr) (l : List Nat) (w : World) (hb : Bytes w B A n l) (hB : B ≤ w.heap.size) (hn : n ≤ 1000000) :
    Calls Try.prog 38 #[.slice A n c] w (OwnPost w n l) := by
  obtain ⟨i0, hi, hz0, hz1, hz2⟩ := info_parts Try.info5
  have HI := Lib.hid hi
  have HZ0 := Lib.hid hz0
  have HZ1 := Lib.hid hz1
  have HZ2 := Lib.hid hz2
  clear hi hz0 hz1 hz2
  rcases A with _ | ad
  · obtain ⟨rfl, rfl⟩ := hb.none_len
    clear hb
    have hq := fun W : World => run_eql_none (P := Try.prog) W 25 5 none 0 c Try.underlying25
    go_enter Try.func38, Try.ntmps38
    go_wp2_with fail
    go_ret
    exact ⟨none, 0, rfl, own_nil _ _ _ _, Below.refl _ _⟩
  · have hb1 := hb.alloc hB (.cells #[] 5)
    have hcells := Lib.hid hb1.cells
    have hlen : (u8s l).length = n * 1 := by rw [u8s_len, hb.1]; omega
    have HLEN := Lib.hid hlen
    clear hb hb1 hlen
    have hq := fun W : World => run_eql_none (P := Try.prog) W 25 5 (some ad) n c Try.underlying25
    go_enter Try.func38, Try.ntmps38
    go_wp2_with (at_builtin; refine wpList_append_own _ rfl _ _ 25 rfl w.heap.size 5 i0 (.int .u8 0) 1 1 Try.underlying25 HI.out HZ0.out HZ1.out HZ2.out rfl (by decide) _ 0 [] rfl (World.ownsRow_made w #[] 0 (Nat.le_refl _) (by decide) rfl) ad n c (u8s l) rfl HLEN.out hcells.out (u8s_one l) (by unfold maxLen; omega) (by omega) (by simp) ?_; intro v' w1 hown hgrow _)
    rw [Nat.zero_add, List.nil_append] at hown
    obtain ⟨A', c', rfl⟩ := own_slice hown
    have hbw : Below w.heap.size w w1 := grow_below (Below.refl _ _) hgrow (fun g hg => by injection hg with hg; simp at hg; omega)
    clear hgrow
    go_ret
    exact ⟨A', c', rfl, hown, hbw⟩
theorem own_cap {w : World} {b e s n c : Nat} {a : Option Addr} {xs : List Value} (h : w.ownsRow b e s (.slice a n c) n xs) : n ≤ c := by
  rcases h.2 with ⟨hv, h0⟩ | ⟨g, cap, cur, hv, _, _, h1, _⟩
  · omega
  · injection hv with _ _ hc
    omega
theorem own_from {w : World} {b e s n c : Nat} {a : Option Addr} {xs : List Value} (h : w.ownsRow b e s (.slice a n c) n xs) : ∀ k off q, a = some ⟨k, off, q⟩ → b ≤ k := by
  intro k off q ha
  subst ha
  exact (h.lt k rfl).1
theorem of_any (n c B : Nat) (A : Option Addr) (l : List Nat) (w : World) (hb : Bytes w B A n l) (hB : B ≤ w.heap.size) (hn : n ≤ 1000000) :
    Calls Try.prog 21 #[.slice A n c] w (OfPost w l) := by
  have HB := Lib.hid hb
  clear hb
  go_enter Try.func21, Try.ntmps21
  go_wp2_with fail
  refine (clone_any n c B A l w HB.out hB hn).mono ?_
  rintro e w1 ⟨A1, c1, rfl, ho, b1⟩
  have hy := Bytes.of_own ho HB.out.2.1
  have hr : Rd (w1.alloc (.cells #[.slice A1 n c1, .bool false] 67)) w.heap.size w1.heap.size l false := ⟨A1, n, c1, Blk.new w1 _ _, hy.alloc (Nat.le_refl _) _, own_cap ho, hn, own_from ho⟩
  have hz := b1.size
  clear hy ho
  go_wp2_with fail
  go_ret
  exact ⟨_, rfl, hr, hz, b1.alloc hz _⟩

def TakePost (w : World) (lo g k : Nat) (l : List Nat) (f : Bool) (e : Ending) (w' : World) : Prop :=
  ∃ A n c, e = .returned (.slice A n c) ∧ Bytes w' g A n (Pk.taken f l k) ∧ n ≤ k ∧ Rd w' lo g (Pk.left f l k) (Pk.fails f l k) ∧ w.grownBy w' (some g)
theorem Rd.cells {w : World} {lo g : Nat} {l : List Nat} {f : Bool} (h : Rd w lo g l f) : ∃ A c, w.cell? ⟨g, 0, none⟩ = some (.slice A l.length c) ∧ w.cell? ⟨g, 1, none⟩ = some (.bool f) ∧ w.frozen? ⟨g, 0, none⟩ = false ∧ w.frozen? ⟨g, 1, none⟩ = false ∧ Bytes w g A l.length l ∧ l.length ≤ c ∧ ∀ b off s, A = some ⟨b, off, s⟩ → lo ≤ b := by
  obtain ⟨A, n, c, hk, hy, h1, h2, h3⟩ := h
  obtain rfl : l.length = n := hy.1
  exact ⟨A, c, hk.cell 0, hk.cell 1, hk.frozen 0, hk.frozen 1, hy, h1, h3⟩
theorem Rd.failed {w : World} {lo g : Nat} {l : List Nat} {f : Bool} (h : Rd w lo g l f) (b : Bool) : Rd (w.setCell ⟨g, 1, none⟩ (.bool b)) lo g l b := by
  obtain ⟨A, n, c, hk, hy, h1, h2, h3⟩ := h
  exact ⟨A, n, c, hk.set_ 1 _, hy.keepIn h3 (fun x o _ hx => World.cell?_of_block (a := ⟨x, o, none⟩) (Below.heap_setCell w ⟨g, 1, none⟩ _ x (by show x ≠ g; omega))), h1, h2, h3⟩


theorem Rd.moved {w : World} {lo g : Nat} {l : List Nat} {A : Option Addr} {c k : Nat} {f : Bool} (h : Rd w lo g l f) (hA : w.cell? ⟨g, 0, none⟩ = some (.slice A l.length c)) (hk : k ≤ l.length) :
    Rd (w.setCell ⟨g, 0, none⟩ (.slice (if c = k then A else A.map (·.add k)) (l.length - k) (c - k))) lo g (l.drop k) f := by
  obtain ⟨A', n, c', hb, hy, h1, h2, h3⟩ := h
  have e := (hb.cell 0).symm.trans hA
  simp at e
  obtain ⟨rfl, rfl, rfl⟩ := e
  have hcut := hy.cut hk h1
  have hlo : ∀ b off s, (if c' = k then A' else A'.map (·.add k)) = some ⟨b, off, s⟩ → lo ≤ b := by
    intro b off s he
    split at he
    · exact h3 b off s he
    · rcases A' with _ | ⟨b0, o0, s0⟩
      · simp at he
      · simp only [Option.map_some, Option.some.injEq] at he
        have : b0 = b := by unfold Addr.add at he; split at he <;> (injection he)
        exact this ▸ h3 b0 o0 s0 rfl
  generalize (if c' = k then A' else A'.map (·.add k)) = A2 at *
  exact ⟨_, _, _, hb.set_ 0 _, hcut.keepIn hlo (fun x o _ hx => World.cell?_of_block (a := ⟨x, o, none⟩) (Below.heap_setCell w ⟨g, 0, none⟩ _ x (by show x ≠ g; omega))), by omega, by omega, hlo⟩
theorem Bytes.far {w : World} {g n o : Nat} {A : Option Addr} {l : List Nat} {v : Value} (h : Bytes w g A n l) : Bytes (w.setCell ⟨g, o, none⟩ v) g A n l :=
  h.keep fun x o' hx => World.cell?_of_block (a := ⟨x, o', none⟩) (Below.heap_setCell w ⟨g, o, none⟩ _ x (by show x ≠ g; omega))

set_option maxRecDepth 100000 in
theorem take_any (lo g k : Nat) (l : List Nat) (f : Bool) (w : World) (hr : Rd w lo g l f) (hk : k ≤ 1000000) :
    Calls Try.prog 43 #[.pointer (some ⟨g, 0, none⟩), .int .i64 (k : Int)] w (TakePost w lo g k l f) := by
  obtain ⟨i0, hi, hz0, hz1, hz2⟩ := info_parts Try.info5
  have hll := hr.len
  obtain ⟨A, c, c0, c1, z0, z1, hy, hc, -⟩ := hr.cells
  have HR := Lib.hid hr
  have HC0 := Lib.hid c0
  have r1 := run_cut_h (P := Try.prog) 25 5 i0 Try.underlying25 hi A l.length c k
  have r2 := run_cut_l (P := Try.prog) 25 5 i0 Try.underlying25 hi hz1 A l.length c k (k : Int) rfl
  clear hi hz0 hz1 hz2 hr
  by_cases hf : f = true
  · subst hf
    clear r1 r2
    go_enter Try.func43, Try.ntmps43
    go_wp2_with fail
    go_ret
    have hF : Pk.fails true l k = true := Pk.fails_yes (.inl rfl)
    exact ⟨none, 0, 0, rfl, by rw [Pk.taken_yes hF]; exact Bytes.nil, by omega, by rw [Pk.left_yes hF, hF]; exact HR.out.failed true, only_setCell (World.grownBy.refl _ _) _ _⟩
  · obtain rfl : f = false := by simpa using hf
    clear hf
    by_cases hlt : l.length < k
    · clear r1 r2
      have hF : Pk.fails false l k = true := Pk.fails_yes (.inr hlt)
      have HF := Lib.hid hF
      clear hF
      go_enter Try.func43, Try.ntmps43
      go_wp2_with fail
      go_ret
      exact ⟨none, 0, 0, rfl, by rw [Pk.taken_yes HF.out]; exact Bytes.nil, by omega, by rw [Pk.left_yes HF.out, HF.out]; exact HR.out.failed true, only_setCell (World.grownBy.refl _ _) _ _⟩
    · have hF : Pk.fails false l k = false := Pk.fails_no (by omega)
      have HF := Lib.hid hF
      have q1 := r1 (by omega)
      have q2 := r2 (by omega)
      have HY := Lib.hid hy
      have hc1 : (w.setCell ⟨g, 1, none⟩ (.bool false)).cell? ⟨g, 0, none⟩ = some (.slice A l.length c) := by rw [World.cell?_setCell_other _ _ _ _ (by simp), c0]
      have hM := (HR.out.failed false).moved (k := k) hc1 (by omega)
      have hB := (((hy.far (o := 1) (v := .bool false)).head (j := k) (by omega))).far (o := 0) (v := .slice (if c = k then A else A.map (·.add k)) (l.length - k) (c - k))
      have HM := Lib.hid hM
      have HB := Lib.hid hB
      clear hF r1 r2 hy hM hB hc1
      generalize (if c = k then A else A.map (·.add k)) = A2 at *
      go_enter Try.func43, Try.ntmps43
      go_wp2_with fail
      go_ret
      exact ⟨A, k, c, rfl, by rw [Pk.taken_no HF.out]; exact HB.out, Nat.le_refl _, by rw [Pk.left_no HF.out, HF.out]; exact HM.out, only_setCell (only_setCell (World.grownBy.refl _ _) _ _) _ _⟩
theorem take_nil (k : Int) (w : World) : Calls Try.prog 43 #[.pointer none, .int .i64 k] w fun e w' => e = .returned (.slice none 0 0) ∧ w = w' := by
  go_enter Try.func43, Try.ntmps43
  go_wp2_with fail
  go_ret
  exact ⟨rfl, rfl⟩

theorem or_u64 (x c : Nat) (hx : x < 72057594037927936) (hc : c < 256) : bits .or .u64 ((x : Int) * 256) (c : Int) = ((x * 256 + c : Nat) : Int) := by
  have h := u64_or_nat (x * 256) c (by omega) (by omega)
  have h2 := Nat.two_pow_add_eq_or_of_lt (i := 8) (b := c) (by simpa using hc) x
  rw [show (2 : Nat) ^ 8 = 256 from rfl, Nat.mul_comm 256 x] at h2
  rw [← h2] at h
  exact h
theorem num_step {w : World} {B n k : Nat} {A : Option Addr} {l : List Nat} (h : Bytes w B A n l) (hk : k < n) : Pk.num (l.take (k + 1)) = Pk.num (l.take k) * 256 + l.getD k 0 := by
  rw [take_snoc l k (by rw [h.1]; exact hk), Pk.num_snoc]
theorem num_small {l : List Nat} {k : Nat} (h : ∀ x ∈ l, x < 256) (hk : k < l.length) (h8 : l.length ≤ 8) : Pk.num (l.take k) < 72057594037927936 :=
  Nat.lt_of_lt_of_le (Pk.num_take_lt l k h (by omega)) (Nat.le_trans (Nat.pow_le_pow_right (by decide) (show k ≤ 7 by omega)) (by decide))
/-- A number of eight bytes, as a whole number. -/
def sg (m : Nat) : Int := IntKind.i64.wrap (m : Int)


set_option maxRecDepth 100000 in
theorem unpacked_uint8_any (n c B : Nat) (A : Option Addr) (l : List Nat) (w : World) (hb : Bytes w B A n l) (hn : n ≤ 8) (hl : Pk.num l < 256) :
    Calls Try.prog 42 #[.slice A n c] w fun e w' => e = .returned (.int .u8 ((Pk.num l : Nat) : Int)) ∧ w = w' := by
  have HB := Lib.hid hb
  clear hb
  go_enter Try.func42, Try.ntmps42
  go_wp2_with fail
  go_loop [3, 8] (fun t i => ∃ k x : Nat, k ≤ n ∧ i = .int .i64 k ∧ Pk.num (l.take k) = x ∧ t = .int .u64 (x : Int)) (fun _ i => n - (intOf i).toNat)
  case atStart => exact ⟨0, 0, by omega, rfl, rfl, rfl⟩
  case round =>
    obtain ⟨k, x, hk, rfl, hx, rfl⟩ := hrel
    by_cases hlt : k < n
    · obtain ⟨b, off, rfl, hbB, hc⟩ := HB.out.2.2 (by omega)
      have hck := hc k hlt
      have h8 := HB.out.lt k
      have HS := Lib.hid (num_step HB.out hlt)
      have hx7 : x < 72057594037927936 := by rw [← hx]; exact num_small HB.out.2.1 (by have := HB.out.1; omega) (by have := HB.out.1; omega)
      have HX := Lib.hid hx
      clear hc hx
      generalize l.getD k 0 = y at *
      have hor := or_u64 x y hx7 h8
      go_wp2_with fail
      go_round
      case rel => exact ⟨k + 1, x * 256 + y, by omega, by go_num, by rw [HS.out, HX.out], rfl⟩
      case measure => simp [intOf]; omega
    · rw [List.take_of_length_le (by have := HB.out.1; omega)] at hx
      have HX := Lib.hid hx
      rw [hx] at hl
      clear hx
      go_wp2_with fail
      go_ret
      exact ⟨ret_int (by rw [HX.out]), rfl⟩


def U8Post (w : World) (lo g : Nat) (l : List Nat) (f : Bool) (e : Ending) (w' : World) : Prop :=
  e = .returned (.int .u8 ((Pk.num (Pk.taken f l 1) : Nat))) ∧ Rd w' lo g (Pk.left f l 1) (Pk.fails f l 1) ∧ w.grownBy w' (some g)
theorem u8_any (lo g : Nat) (l : List Nat) (f : Bool) (w : World) (hr : Rd w lo g l f) :
    Calls Try.prog 24 #[.pointer (some ⟨g, 0, none⟩)] w (U8Post w lo g l f) := by
  have HR := Lib.hid hr
  clear hr
  go_enter Try.func24, Try.ntmps24
  go_wp2_with fail
  refine (take_any lo g 1 l f w HR.out (by omega)).mono ?_
  rintro e w1 ⟨A, n, c, rfl, hy, hn, hr1, hg⟩
  have HP := Lib.hid hr1
  clear hr1
  go_wp2_with fail
  refine (unpacked_uint8_any n c g A _ _ hy (by omega) (Nat.lt_of_lt_of_le (Pk.taken_num_lt f l 1 HR.out.lt) (by decide))).mono ?_
  rintro e w2 ⟨rfl, rfl⟩
  clear hy
  go_wp2_with fail
  go_ret
  exact ⟨rfl, HP.out, hg⟩
theorem u8_nil (w : World) : Calls Try.prog 24 #[.pointer none] w fun e w' => e = .returned (.int .u8 0) ∧ w = w' := by
  go_enter Try.func24, Try.ntmps24
  go_wp2_with fail
  refine (take_nil _ _).mono ?_
  rintro e w1 ⟨rfl, rfl⟩
  go_wp2_with fail
  refine (unpacked_uint8_any 0 0 0 none [] _ Bytes.nil (by omega) (by decide)).mono ?_
  rintro e w2 ⟨rfl, rfl⟩
  go_wp2_with fail
  go_ret
  exact ⟨rfl, rfl⟩


set_option maxRecDepth 100000 in
theorem unpacked_uint16_any (n c B : Nat) (A : Option Addr) (l : List Nat) (w : World) (hb : Bytes w B A n l) (hn : n ≤ 8) (hl : Pk.num l < 65536) :
    Calls Try.prog 44 #[.slice A n c] w fun e w' => e = .returned (.int .u16 ((Pk.num l : Nat) : Int)) ∧ w = w' := by
  have HB := Lib.hid hb
  clear hb
  go_enter Try.func44, Try.ntmps44
  go_wp2_with fail
  go_loop [3, 8] (fun t i => ∃ k x : Nat, k ≤ n ∧ i = .int .i64 k ∧ Pk.num (l.take k) = x ∧ t = .int .u64 (x : Int)) (fun _ i => n - (intOf i).toNat)
  case atStart => exact ⟨0, 0, by omega, rfl, rfl, rfl⟩
  case round =>
    obtain ⟨k, x, hk, rfl, hx, rfl⟩ := hrel
    by_cases hlt : k < n
    · obtain ⟨b, off, rfl, hbB, hc⟩ := HB.out.2.2 (by omega)
      have hck := hc k hlt
      have h8 := HB.out.lt k
      have HS := Lib.hid (num_step HB.out hlt)
      have hx7 : x < 72057594037927936 := by rw [← hx]; exact num_small HB.out.2.1 (by have := HB.out.1; omega) (by have := HB.out.1; omega)
      have HX := Lib.hid hx
      clear hc hx
      generalize l.getD k 0 = y at *
      have hor := or_u64 x y hx7 h8
      go_wp2_with fail
      go_round
      case rel => exact ⟨k + 1, x * 256 + y, by omega, by go_num, by rw [HS.out, HX.out], rfl⟩
      case measure => simp [intOf]; omega
    · rw [List.take_of_length_le (by have := HB.out.1; omega)] at hx
      have HX := Lib.hid hx
      rw [hx] at hl
      clear hx
      go_wp2_with fail
      go_ret
      exact ⟨ret_int (by rw [HX.out]), rfl⟩


def U16Post (w : World) (lo g : Nat) (l : List Nat) (f : Bool) (e : Ending) (w' : World) : Prop :=
  e = .returned (.int .u16 ((Pk.num (Pk.taken f l 2) : Nat))) ∧ Rd w' lo g (Pk.left f l 2) (Pk.fails f l 2) ∧ w.grownBy w' (some g)
theorem u16_any (lo g : Nat) (l : List Nat) (f : Bool) (w : World) (hr : Rd w lo g l f) :
    Calls Try.prog 25 #[.pointer (some ⟨g, 0, none⟩)] w (U16Post w lo g l f) := by
  have HR := Lib.hid hr
  clear hr
  go_enter Try.func25, Try.ntmps25
  go_wp2_with fail
  refine (take_any lo g 2 l f w HR.out (by omega)).mono ?_
  rintro e w1 ⟨A, n, c, rfl, hy, hn, hr1, hg⟩
  have HP := Lib.hid hr1
  clear hr1
  go_wp2_with fail
  refine (unpacked_uint16_any n c g A _ _ hy (by omega) (Nat.lt_of_lt_of_le (Pk.taken_num_lt f l 2 HR.out.lt) (by decide))).mono ?_
  rintro e w2 ⟨rfl, rfl⟩
  clear hy
  go_wp2_with fail
  go_ret
  exact ⟨rfl, HP.out, hg⟩
theorem u16_nil (w : World) : Calls Try.prog 25 #[.pointer none] w fun e w' => e = .returned (.int .u16 0) ∧ w = w' := by
  go_enter Try.func25, Try.ntmps25
  go_wp2_with fail
  refine (take_nil _ _).mono ?_
  rintro e w1 ⟨rfl, rfl⟩
  go_wp2_with fail
  refine (unpacked_uint16_any 0 0 0 none [] _ Bytes.nil (by omega) (by decide)).mono ?_
  rintro e w2 ⟨rfl, rfl⟩
  go_wp2_with fail
  go_ret
  exact ⟨rfl, rfl⟩


set_option maxRecDepth 100000 in
theorem unpacked_uint32_any (n c B : Nat) (A : Option Addr) (l : List Nat) (w : World) (hb : Bytes w B A n l) (hn : n ≤ 8) (hl : Pk.num l < 4294967296) :
    Calls Try.prog 45 #[.slice A n c] w fun e w' => e = .returned (.int .u32 ((Pk.num l : Nat) : Int)) ∧ w = w' := by
  have HB := Lib.hid hb
  clear hb
  go_enter Try.func45, Try.ntmps45
  go_wp2_with fail
  go_loop [3, 8] (fun t i => ∃ k x : Nat, k ≤ n ∧ i = .int .i64 k ∧ Pk.num (l.take k) = x ∧ t = .int .u64 (x : Int)) (fun _ i => n - (intOf i).toNat)
  case atStart => exact ⟨0, 0, by omega, rfl, rfl, rfl⟩
  case round =>
    obtain ⟨k, x, hk, rfl, hx, rfl⟩ := hrel
    by_cases hlt : k < n
    · obtain ⟨b, off, rfl, hbB, hc⟩ := HB.out.2.2 (by omega)
      have hck := hc k hlt
      have h8 := HB.out.lt k
      have HS := Lib.hid (num_step HB.out hlt)
      have hx7 : x < 72057594037927936 := by rw [← hx]; exact num_small HB.out.2.1 (by have := HB.out.1; omega) (by have := HB.out.1; omega)
      have HX := Lib.hid hx
      clear hc hx
      generalize l.getD k 0 = y at *
      have hor := or_u64 x y hx7 h8
      go_wp2_with fail
      go_round
      case rel => exact ⟨k + 1, x * 256 + y, by omega, by go_num, by rw [HS.out, HX.out], rfl⟩
      case measure => simp [intOf]; omega
    · rw [List.take_of_length_le (by have := HB.out.1; omega)] at hx
      have HX := Lib.hid hx
      rw [hx] at hl
      clear hx
      go_wp2_with fail
      go_ret
      exact ⟨ret_int (by rw [HX.out]), rfl⟩


def U32Post (w : World) (lo g : Nat) (l : List Nat) (f : Bool) (e : Ending) (w' : World) : Prop :=
  e = .returned (.int .u32 ((Pk.num (Pk.taken f l 4) : Nat))) ∧ Rd w' lo g (Pk.left f l 4) (Pk.fails f l 4) ∧ w.grownBy w' (some g)
theorem u32_any (lo g : Nat) (l : List Nat) (f : Bool) (w : World) (hr : Rd w lo g l f) :
    Calls Try.prog 26 #[.pointer (some ⟨g, 0, none⟩)] w (U32Post w lo g l f) := by
  have HR := Lib.hid hr
  clear hr
  go_enter Try.func26, Try.ntmps26
  go_wp2_with fail
  refine (take_any lo g 4 l f w HR.out (by omega)).mono ?_
  rintro e w1 ⟨A, n, c, rfl, hy, hn, hr1, hg⟩
  have HP := Lib.hid hr1
  clear hr1
  go_wp2_with fail
  refine (unpacked_uint32_any n c g A _ _ hy (by omega) (Nat.lt_of_lt_of_le (Pk.taken_num_lt f l 4 HR.out.lt) (by decide))).mono ?_
  rintro e w2 ⟨rfl, rfl⟩
  clear hy
  go_wp2_with fail
  go_ret
  exact ⟨rfl, HP.out, hg⟩
theorem u32_nil (w : World) : Calls Try.prog 26 #[.pointer none] w fun e w' => e = .returned (.int .u32 0) ∧ w = w' := by
  go_enter Try.func26, Try.ntmps26
  go_wp2_with fail
  refine (take_nil _ _).mono ?_
  rintro e w1 ⟨rfl, rfl⟩
  go_wp2_with fail
  refine (unpacked_uint32_any 0 0 0 none [] _ Bytes.nil (by omega) (by decide)).mono ?_
  rintro e w2 ⟨rfl, rfl⟩
  go_wp2_with fail
  go_ret
  exact ⟨rfl, rfl⟩


set_option maxRecDepth 100000 in
theorem unpacked_uint64_any (n c B : Nat) (A : Option Addr) (l : List Nat) (w : World) (hb : Bytes w B A n l) (hn : n ≤ 8) (_hl : Pk.num l < 18446744073709551616) :
    Calls Try.prog 46 #[.slice A n c] w fun e w' => e = .returned (.int .u64 ((Pk.num l : Nat) : Int)) ∧ w = w' := by
  have HB := Lib.hid hb
  clear hb
  go_enter Try.func46, Try.ntmps46
  go_wp2_with fail
  go_loop [3, 8] (fun t i => ∃ k x : Nat, k ≤ n ∧ i = .int .i64 k ∧ Pk.num (l.take k) = x ∧ t = .int .u64 (x : Int)) (fun _ i => n - (intOf i).toNat)
  case atStart => exact ⟨0, 0, by omega, rfl, rfl, rfl⟩
  case round =>
    obtain ⟨k, x, hk, rfl, hx, rfl⟩ := hrel
    by_cases hlt : k < n
    · obtain ⟨b, off, rfl, hbB, hc⟩ := HB.out.2.2 (by omega)
      have hck := hc k hlt
      have h8 := HB.out.lt k
      have HS := Lib.hid (num_step HB.out hlt)
      have hx7 : x < 72057594037927936 := by rw [← hx]; exact num_small HB.out.2.1 (by have := HB.out.1; omega) (by have := HB.out.1; omega)
      have HX := Lib.hid hx
      clear hc hx
      generalize l.getD k 0 = y at *
      have hor := or_u64 x y hx7 h8
      go_wp2_with fail
      go_round
      case rel => exact ⟨k + 1, x * 256 + y, by omega, by go_num, by rw [HS.out, HX.out], rfl⟩
      case measure => simp [intOf]; omega
    · rw [List.take_of_length_le (by have := HB.out.1; omega)] at hx
      have HX := Lib.hid hx
      clear hx
      go_wp2_with fail
      go_ret
      exact ⟨ret_int (by rw [HX.out]), rfl⟩


def U64Post (w : World) (lo g : Nat) (l : List Nat) (f : Bool) (e : Ending) (w' : World) : Prop :=
  e = .returned (.int .u64 ((Pk.num (Pk.taken f l 8) : Nat))) ∧ Rd w' lo g (Pk.left f l 8) (Pk.fails f l 8) ∧ w.grownBy w' (some g)
theorem u64_any (lo g : Nat) (l : List Nat) (f : Bool) (w : World) (hr : Rd w lo g l f) :
    Calls Try.prog 27 #[.pointer (some ⟨g, 0, none⟩)] w (U64Post w lo g l f) := by
  have HR := Lib.hid hr
  clear hr
  go_enter Try.func27, Try.ntmps27
  go_wp2_with fail
  refine (take_any lo g 8 l f w HR.out (by omega)).mono ?_
  rintro e w1 ⟨A, n, c, rfl, hy, hn, hr1, hg⟩
  have HP := Lib.hid hr1
  clear hr1
  go_wp2_with fail
  refine (unpacked_uint64_any n c g A _ _ hy (by omega) (Nat.lt_of_lt_of_le (Pk.taken_num_lt f l 8 HR.out.lt) (by decide))).mono ?_
  rintro e w2 ⟨rfl, rfl⟩
  clear hy
  go_wp2_with fail
  go_ret
  exact ⟨rfl, HP.out, hg⟩
theorem u64_nil (w : World) : Calls Try.prog 27 #[.pointer none] w fun e w' => e = .returned (.int .u64 0) ∧ w = w' := by
  go_enter Try.func27, Try.ntmps27
  go_wp2_with fail
  refine (take_nil _ _).mono ?_
  rintro e w1 ⟨rfl, rfl⟩
  go_wp2_with fail
  refine (unpacked_uint64_any 0 0 0 none [] _ Bytes.nil (by omega) (by decide)).mono ?_
  rintro e w2 ⟨rfl, rfl⟩
  go_wp2_with fail
  go_ret
  exact ⟨rfl, rfl⟩


set_option maxRecDepth 100000 in
theorem unpacked_int64_any (n c B : Nat) (A : Option Addr) (l : List Nat) (w : World) (hb : Bytes w B A n l) (hn : n ≤ 8) (_hl : Pk.num l < 18446744073709551616) :
    Calls Try.prog 47 #[.slice A n c] w fun e w' => e = .returned (.int .i64 (sg (Pk.num l))) ∧ w = w' := by
  have HB := Lib.hid hb
  clear hb
  go_enter Try.func47, Try.ntmps47
  go_wp2_with fail
  go_loop [3, 8] (fun t i => ∃ k x : Nat, k ≤ n ∧ i = .int .i64 k ∧ Pk.num (l.take k) = x ∧ t = .int .u64 (x : Int)) (fun _ i => n - (intOf i).toNat)
  case atStart => exact ⟨0, 0, by omega, rfl, rfl, rfl⟩
  case round =>
    obtain ⟨k, x, hk, rfl, hx, rfl⟩ := hrel
    by_cases hlt : k < n
    · obtain ⟨b, off, rfl, hbB, hc⟩ := HB.out.2.2 (by omega)
      have hck := hc k hlt
      have h8 := HB.out.lt k
      have HS := Lib.hid (num_step HB.out hlt)
      have hx7 : x < 72057594037927936 := by rw [← hx]; exact num_small HB.out.2.1 (by have := HB.out.1; omega) (by have := HB.out.1; omega)
      have HX := Lib.hid hx
      clear hc hx
      generalize l.getD k 0 = y at *
      have hor := or_u64 x y hx7 h8
      go_wp2_with fail
      go_round
      case rel => exact ⟨k + 1, x * 256 + y, by omega, by go_num, by rw [HS.out, HX.out], rfl⟩
      case measure => simp [intOf]; omega
    · rw [List.take_of_length_le (by have := HB.out.1; omega)] at hx
      have HX := Lib.hid hx
      clear hx
      go_wp2_with fail
      go_ret
      exact ⟨ret_int (by rw [HX.out]; unfold sg wrap64; rw [IntKind.wrap_i64]), rfl⟩


def IntPost (w : World) (lo g : Nat) (l : List Nat) (f : Bool) (e : Ending) (w' : World) : Prop :=
  e = .returned (.int .i64 (sg (Pk.num (Pk.taken f l 8)))) ∧ Rd w' lo g (Pk.left f l 8) (Pk.fails f l 8) ∧ w.grownBy w' (some g)
theorem int_any (lo g : Nat) (l : List Nat) (f : Bool) (w : World) (hr : Rd w lo g l f) :
    Calls Try.prog 28 #[.pointer (some ⟨g, 0, none⟩)] w (IntPost w lo g l f) := by
  have HR := Lib.hid hr
  clear hr
  go_enter Try.func28, Try.ntmps28
  go_wp2_with fail
  refine (take_any lo g 8 l f w HR.out (by omega)).mono ?_
  rintro e w1 ⟨A, n, c, rfl, hy, hn, hr1, hg⟩
  have HP := Lib.hid hr1
  clear hr1
  go_wp2_with fail
  refine (unpacked_int64_any n c g A _ _ hy (by omega) (Nat.lt_of_lt_of_le (Pk.taken_num_lt f l 8 HR.out.lt) (by decide))).mono ?_
  rintro e w2 ⟨rfl, rfl⟩
  clear hy
  go_wp2_with fail
  go_ret
  exact ⟨rfl, HP.out, hg⟩
theorem int_nil (w : World) : Calls Try.prog 28 #[.pointer none] w fun e w' => e = .returned (.int .i64 0) ∧ w = w' := by
  go_enter Try.func28, Try.ntmps28
  go_wp2_with fail
  refine (take_nil _ _).mono ?_
  rintro e w1 ⟨rfl, rfl⟩
  go_wp2_with fail
  refine (unpacked_int64_any 0 0 0 none [] _ Bytes.nil (by omega) (by decide)).mono ?_
  rintro e w2 ⟨rfl, rfl⟩
  go_wp2_with fail
  go_ret
  exact ⟨rfl, rfl⟩

end Go.Proofs.Ytadcjllfabihbaa
