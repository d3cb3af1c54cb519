/- Rows that a call makes of its own: a copy of bytes; a check in bytes. -/
import Derived.Test.YtflfmcicidgkmaaWalkG
import Derived.Laws.AppendOwn
import Derived.Laws.AppendOwnNone
import Derived.Deep.AppendLies
namespace Go.Proofs.Ytflfmcicidgkmaa
open Go.ChangeShapes Go.WideShapes Go.ChangeAt Go.RowKit

theorem add_at (b off j : Nat) : (⟨b, off, none⟩ : Addr).add j = ⟨b, off + j, none⟩ := by
  unfold Addr.add
  split
  · rename_i h; subst h; rfl
  · rfl
def u8s (l : List Nat) : List Value := l.map fun (x : Nat) => Value.int .u8 (x : Int)
theorem u8s_len (l : List Nat) : (u8s l).length = l.length := by simp [u8s]
theorem u8s_one (l : List Nat) : ∀ u ∈ u8s l, u.oneCell' = true := by
  intro u hu
  simp [u8s] at hu
  obtain ⟨x, _, rfl⟩ := hu
  rfl
theorem u8s_get {l : List Nat} {j : Nat} {u : Value} (h : (u8s l)[j]? = some u) : j < l.length ∧ u = .int .u8 ((l.getD j 0 : Nat) : Int) := by
  simp only [u8s, List.getElem?_map] at h
  rcases hx : l[j]? with _ | x
  · rw [hx] at h; cases h
  · rw [hx] at h
    have hj : j < l.length := by
      rcases Nat.lt_or_ge j l.length with h1 | h1
      · exact h1
      · rw [List.getElem?_eq_none h1] at hx; cases hx
    refine ⟨hj, ?_⟩
    rw [List.getD_eq_getElem?_getD, hx]
    simpa using h.symm
theorem u8s_append (a b : List Nat) : u8s a ++ u8s b = u8s (a ++ b) := by simp [u8s]
theorem u8s_at {l : List Nat} {j : Nat} (h : j < l.length) : (u8s l)[j]? = some (.int .u8 ((l.getD j 0 : Nat) : Int)) := by
  simp only [u8s, List.getElem?_map, List.getD_eq_getElem?_getD, List.getElem?_eq_getElem h]
  rfl

theorem Bytes.of_own {w : World} {base n c : Nat} {A : Option Addr} {l : List Nat} {e : TypeId} (h : w.ownsRow base e 1 (.slice A n c) n (u8s l)) (hl : ∀ x ∈ l, x < 256) : Bytes w w.heap.size A n l := by
  have hlen : l.length = n := by have := h.1; rw [u8s_len] at this; omega
  refine ⟨hlen, hl, fun hn => ?_⟩
  obtain ⟨g, cap, hv, hc, hlt⟩ := h.form hn
  have hA : A = some ⟨g, 0, none⟩ := by injection hv
  subst hA
  refine ⟨g, 0, rfl, hlt, fun i hi => ?_⟩
  have := h.cells (g := g) rfl i _ (u8s_at (by omega))
  rw [add_at] at this
  exact this

theorem own_slice {w : World} {base n size : Nat} {e : TypeId} {v : Value} {xs : List Value} (h : w.ownsRow base e size v n xs) : ∃ A c, v = .slice A n c := by
  rcases h.2 with ⟨rfl, rfl⟩ | ⟨g, cap, cur, rfl, _⟩
  · exact ⟨none, 0, rfl⟩
  · exact ⟨_, cap, rfl⟩
theorem below_none {w w' : World} (h : w.grownBy w' none) : Below w.heap.size w w' := ⟨h.os, h.tape, h.output, h.size, fun k hk => h.block k hk (by simp)⟩

def OwnPost (w : World) (n : Nat) (l : List Nat) (e : Ending) (w' : World) : Prop :=
  ∃ A' c', e = .returned (.slice A' n c') ∧ w'.ownsRow w.heap.size 5 1 (.slice A' n c') n (u8s l) ∧ Below w.heap.size w w'

theorem run_append_nil {P : Program} {w : World} (t ty e : TypeId) (i : TypeInfo) (ht : P.underlying t = some (.slice e)) (hi : P.info? e = some i) (c : Nat) : (Builtin.append_ #[t, t] ty #[.slice none 0 0, .slice none 0 c]).run P w = .ok (.slice none 0 0) w := by
  simp [Builtin.append_, run_underlying ht, sizeOf, typeInfo, hi, Builtin.lenOf, Builtin.firstCells]
theorem own_nil (w : World) (base : Nat) (e : TypeId) (size : Nat) : w.ownsRow base e size (.slice none 0 0) 0 [] := ⟨by simp, .inl ⟨rfl, rfl⟩⟩

theorem Try.info5 : (Try.prog.info? 5).map (fun i => (i.zero, i.size, i.bytes)) = some (some (.int .u8 0), 1, 1) := by kernel_rfl

theorem own_any (n c B : Nat) (A : Option Addr) (l : List Nat) (w : World) (hb : Bytes w B A n l) (hn : n ≤ 1000000) :
    Calls Try.prog 9 #[.slice A n c] w (OwnPost w n l) := by
  obtain ⟨i0, hi, hz0, hz1, hz2⟩ := info_parts Try.info5
  rcases A with _ | ad
  · have h0 : n = 0 := by
      rcases Nat.eq_zero_or_pos n with h | h
      · exact h
      · obtain ⟨b, off, e, _⟩ := hb.2.2 h
        cases e
    subst h0
    obtain rfl : l = [] := List.eq_nil_of_length_eq_zero hb.1
    have hr := fun W : World => run_append_nil (P := Try.prog) (w := W) 24 24 5 i0 Try.underlying24 hi c
    go_enter Try.func9, Try.ntmps9
    go_wp2_with fail
    go_ret
    exact ⟨none, 0, rfl, own_nil _ _ _ _, Below.refl _ _⟩
  · have hcells : ∀ j u, (u8s l)[j]? = some u → w.cell? (ad.add j) = some u := by
      intro j u hu
      obtain ⟨hj, rfl⟩ := u8s_get hu
      obtain ⟨b, off, e, _, hc⟩ := hb.2.2 (by have := hb.1; omega)
      injection e with e
      subst e
      rw [add_at]
      exact hc j (by have := hb.1; omega)
    have hlen : (u8s l).length = n * 1 := by rw [u8s_len, hb.1]; omega
    go_enter Try.func9, Try.ntmps9
    go_wp2_with (at_builtin; refine wpList_append_own _ rfl _ _ 24 rfl w.heap.size 5 i0 (.int .u8 0) 1 1 Try.underlying24 hi hz0 hz1 hz2 rfl (by decide) _ 0 [] rfl (own_nil _ _ _ _) ad n c (u8s l) rfl hlen hcells (u8s_one l) (by unfold maxLen; omega) (by omega) (Nat.le_refl _) ?_; intro v' w1 hown hgrow _)
    go_ret
    rw [Nat.zero_add, List.nil_append] at hown
    obtain ⟨A', c', rfl⟩ := own_slice hown
    have hg : w.grownBy w1 none := hgrow
    exact ⟨A', c', rfl, hown, below_none hg⟩

/-- The four bytes of a number, the greatest first. -/
def be4 (s : Nat) : List Nat := [s / 16777216, s / 65536 % 256, s / 256 % 256, s % 256]

theorem blk_cells {w : World} {g : Nat} {t : TypeId} {a b c d : Value} (h : Blk w g t #[a, b, c, d]) :
    w.cell? ⟨g, 0, none⟩ = some a ∧ w.cell? ⟨g, 1, none⟩ = some b ∧ w.cell? ⟨g, 2, none⟩ = some c ∧ w.cell? ⟨g, 3, none⟩ = some d ∧
    w.frozen? ⟨g, 0, none⟩ = false ∧ w.frozen? ⟨g, 1, none⟩ = false ∧ w.frozen? ⟨g, 2, none⟩ = false ∧ w.frozen? ⟨g, 3, none⟩ = false :=
  ⟨h.cell 0, h.cell 1, h.cell 2, h.cell 3, h.frozen 0, h.frozen 1, h.frozen 2, h.frozen 3⟩
set_option maxRecDepth 100000 in
theorem of_some (s n c B : Nat) (A : Option Addr) (l : List Nat) (w : World) (hs : Crc.upd 0 l = s) (hb : Bytes w B A n l) (hB : B ≤ w.heap.size) (hn : n ≤ 9223372036854775807) :
    Calls Try.prog 18 #[.slice A n c] w fun e w' => e = .returned (.agg #[.int .u8 ((s / 16777216 : Nat) : Int), .int .u8 ((s / 65536 % 256 : Nat) : Int), .int .u8 ((s / 256 % 256 : Nat) : Int), .int .u8 ((s % 256 : Nat) : Int)]) ∧ Below w.heap.size w w' := by
  have hlt : s < 4294967296 := by rw [← hs]; exact Crc.upd_lt 0 l
  have HE := Lib.hid hs
  clear hs
  go_enter Try.func18, Try.ntmps18
  go_wp2_with fail
  refine (update_any 0 n c B A l _ (by omega) (hb.alloc hB _) (by simp; omega) hn).mono ?_
  rintro e w1 ⟨rfl, hbl⟩
  rw [HE.out]
  have hk : Blk w1 w.heap.size 46 #[.int .u8 0, .int .u8 0, .int .u8 0, .int .u8 0] := (Blk.new w _ _).below hbl (by simp)
  obtain ⟨k0, k1, k2, k3, z0, z1, z2, z3⟩ := blk_cells hk
  have hbw : Below w.heap.size w w1 := ((Below.refl _ _).alloc (Nat.le_refl _) _).trans (hbl.mono (by simp))
  clear hbl hk
  go_wp2_with fail
  refine bodyPost_ret (v := .agg #[.int .u8 ((s : Int) / 16777216), .int .u8 ((s : Int) / 65536 % 256), .int .u8 ((s : Int) / 256 % 256), .int .u8 ((s : Int) % 256)]) ?_ rfl ⟨rfl, ?_⟩
  · simp [results, Try.results18, go_sem, k0, k1, k2, k3]
  · exact (((hbw.setCell (Nat.le_refl _) _).setCell (Nat.le_refl _) _).setCell (Nat.le_refl _) _).setCell (Nat.le_refl _) _
theorem of_any (n c B : Nat) (A : Option Addr) (l : List Nat) (w : World) (hb : Bytes w B A n l) (hB : B ≤ w.heap.size) (hn : n ≤ 9223372036854775807) :
    Calls Try.prog 18 #[.slice A n c] w fun e w' => e = .returned (.agg (u8s (be4 (Crc.upd 0 l))).toArray) ∧ Below w.heap.size w w' := of_some _ n c B A l w rfl hb hB hn

theorem RowsOf.one {w : World} {B n c g : Nat} {A : Option Addr} {l : List Nat} (hb : Bytes w B A n l) (hn : n ≤ 9223372036854775807) (hg : w.cell? ⟨g, 0, none⟩ = some (.slice A n c)) (hB : g < B) : RowsOf w B (some ⟨g, 0, none⟩) 1 [l] :=
  ⟨rfl, fun _ => ⟨g, 0, rfl, hB, fun i hi => by
    obtain rfl : i = 0 := by omega
    exact ⟨A, n, c, hg, hn, hb⟩⟩⟩

/-- A row of one slice, just made. -/
theorem RowsOf.made {w : World} {B n c : Nat} {A : Option Addr} {l : List Nat} {t : TypeId} (hb : Bytes w B A n l) (hB : B ≤ w.heap.size) (hn : n ≤ 9223372036854775807) : RowsOf (w.alloc (.cells #[.slice A n c] t)) (w.heap.size + 1) (some ⟨w.heap.size, 0, none⟩) 1 [l] :=
  RowsOf.one ((hb.alloc hB _).more (by omega)) hn ((Blk.new w t _).cell 0) (by omega)
theorem be4_lt (s : Nat) (h : s < 4294967296) : ∀ x ∈ be4 s, x < 256 := by
  intro x hx
  simp [be4] at hx
  omega
theorem own_new4 (w1 : World) (t : TypeId) (g base a b c d : Nat) (hg : g = w1.heap.size) (hB : base ≤ w1.heap.size) (v0 v1 v2 v3 : Int) (h0 : v0 = a) (h1 : v1 = b) (h2 : v2 = c) (h3 : v3 = d) :
    (w1.alloc (.cells #[.int .u8 v0, .int .u8 v1, .int .u8 v2, .int .u8 v3] t)).ownsRow base t 1 (.slice (some ⟨g, 0, none⟩) 4 4) 4 (u8s [a, b, c, d]) := by
  subst hg h0 h1 h2 h3
  exact ⟨rfl, .inr ⟨_, 4, _, rfl, hB, Blk.new w1 t _, by omega, by decide, rfl, rfl⟩⟩

set_option maxRecDepth 100000 in
theorem refOf_some (s n c B : Nat) (A : Option Addr) (l : List Nat) (w : World) (hs : Crc.sum [l] = s) (hb : Bytes w B A n l) (hB : B ≤ w.heap.size) (hn : n ≤ 9223372036854775807) :
    Calls Try.prog 20 #[.slice A n c] w (OwnPost w 4 (be4 s)) := by
  have hlt : s < 4294967296 := by rw [← hs]; exact Crc.sum_lt [l]
  have HE := Lib.hid hs
  clear hs
  go_enter Try.func20, Try.ntmps20
  go_wp2_with fail
  refine (refSum_any 1 1 (w.heap.size + 1) _ [l] _ (RowsOf.made hb hB hn) (by omega)).mono ?_
  rintro e w1 ⟨rfl, rfl⟩
  rw [HE.out]
  go_wp2_with fail
  go_ret
  refine ⟨some ⟨w.heap.size + 1, 0, none⟩, 4, rfl, own_new4 (w.alloc (.cells #[.slice A n c] 24)) 5 (w.heap.size + 1) w.heap.size (s / 16777216) (s / 65536 % 256) (s / 256 % 256) (s % 256) (by simp) (by simp) ((s : Int) / 16777216) ((s : Int) / 65536 % 256) ((s : Int) / 256 % 256) ((s : Int) % 256) (by omega) (by omega) (by omega) (by omega), ?_⟩
  exact ((Below.refl _ _).alloc (Nat.le_refl _) _).alloc (by simp) _
end Go.Proofs.Ytflfmcicidgkmaa
