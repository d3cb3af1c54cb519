/- Layer 7, the program: a body's frame; frames joined; a number of four bytes. -/
import Derived.Test.YtnokbnobnhkmgaaPk7
import Derived.Test.YtnokbnobnhkmgaaCkP
import Derived.Test.YtnokbnobnhkmgaaRefFrA
import Derived.Test.YtnokbnobnhkmgaaRefFrB
import Derived.Test.YtnokbnobnhkmgaaFrW
namespace Go.Proofs.Ytnokbnobnhkmgaa
open Go.ChangeShapes Go.WideShapes Go.ChangeAt Go.RowKit

/-- A table: blank or made. -/
def Tab (w : World) (g : Nat) : Prop := Blank w g ∨ Made w g
theorem Tab.keep {w w' : World} {g : Nat} (h : Tab w g) (hb : w'.heap[g]? = w.heap[g]?) : Tab w' g := by
  rcases h with ⟨cs, h1, h2⟩ | h
  · exact .inl ⟨cs, hb.trans h1, h2⟩
  · exact .inr (h.keep hb)
theorem Tab.below {w w' : World} {B g : Nat} (h : Tab w g) (hb : Below B w w') (hg : g < B) : Tab w' g := h.keep (hb.block g hg)
theorem Tab.lt {w : World} {g : Nat} (h : Tab w g) : g < w.heap.size := by
  rcases h with ⟨cs, h1, _⟩ | h
  · exact h1.lt
  · exact h.lt
theorem grown_of_below {w w' : World} (h : Below w.heap.size w w') (row : Option Nat) : w.grownBy w' row := ⟨h.os, h.tape, h.output, h.size, fun k hk _ => h.block k hk⟩
theorem own_tab {w w' : World} {b e s n g : Nat} {v : Value} {xs : List Value} (h : w.ownsRow b e s v n xs) (hg : w.grownBy w' (some g)) (hb : g < b) : w'.ownsRow b e s v n xs :=
  h.kept hg (by
    rcases hv : v.ownBlock with _ | k
    · exact .inl rfl
    · exact .inr (fun e => by injection e with e; subst e; have := (h.lt k hv).1; omega))
theorem be_four (n : Nat) (h : n < 4294967296) : Pk.be 4 n = be4 n := by
  simp [Pk.be, be4]
  omega
theorem be4_lt (n : Nat) (h : n < 4294967296) : ∀ x ∈ be4 n, x < 256 := by rw [← be_four n h]; exact Pk.be_lt 4 n
theorem crc_one (l : List Nat) : Crc.upd 0 l = Crc.sum [l] := by
  simp [Crc.upd, Crc.sum, Crc.runs]
theorem u32w (n : Nat) (h : n < 4294967296) : IntKind.u32.wrap (n : Int) = n := by
  simp [IntKind.wrap, IntKind.bits, IntKind.signed]
  omega
theorem rows_three {w : World} {B n1 n2 n3 c1 c2 c3 : Nat} {a1 a2 a3 : Option Addr} {l1 l2 l3 : List Nat} {t : TypeId} (h1 : Bytes w B a1 n1 l1) (h2 : Bytes w B a2 n2 l2) (h3 : Bytes w B a3 n3 l3) (hB : B ≤ w.heap.size) (m1 : n1 ≤ 9223372036854775807) (m2 : n2 ≤ 9223372036854775807) (m3 : n3 ≤ 9223372036854775807) :
    RowsOf (w.alloc (.cells #[.slice a1 n1 c1, .slice a2 n2 c2, .slice a3 n3 c3] t)) (w.heap.size + 1) (some ⟨w.heap.size, 0, none⟩) 3 [l1, l2, l3] := by
  have hk := Blk.new w t #[.slice a1 n1 c1, .slice a2 n2 c2, .slice a3 n3 c3]
  refine ⟨rfl, fun _ => ⟨w.heap.size, 0, rfl, by omega, fun i hi => ?_⟩⟩
  match i, hi with
  | 0, _ => exact ⟨a1, n1, c1, hk.cell 0, m1, (h1.alloc hB _).more (by omega)⟩
  | 1, _ => exact ⟨a2, n2, c2, hk.cell 1, m2, (h2.alloc hB _).more (by omega)⟩
  | 2, _ => exact ⟨a3, n3, c3, hk.cell 2, m3, (h3.alloc hB _).more (by omega)⟩
theorem own_bytes {w : World} {base n c : Nat} {A : Option Addr} {l : List Nat} {e : TypeId} (h : w.ownsRow base e 1 (.slice A n c) n (u8s l)) (hl : ∀ x ∈ l, x < 256) {w' : World} (hb : Below w.heap.size w w') : Bytes w' w'.heap.size A n l := ((Bytes.of_own h hl).below hb (Nat.le_refl _)).more hb.size
theorem join_as {n c B m : Nat} {A : Option Addr} {ls : List (List Nat)} {L : List Nat} {w : World} (hfl : ls.flatten = L) (hm : L.length = m) (hm1 : m ≤ 100000000) (hr : RowsOf w B A n ls) (hB : B ≤ w.heap.size) (hn : n ≤ 100000000) :
    Calls Try.prog 31 #[.slice A n c] w (OwnPost w m L) := by
  subst hfl
  subst hm
  exact join_any n c B A ls w hr hB hn hm1
def PutG (w : World) (g : Nat) (l : List Nat) (r : Int) (e : Ending) (w' : World) : Prop := ∃ (A : Option Addr) (c : Nat), e = .returned (.tuple #[.slice A l.length c, .int .i64 r]) ∧ w'.ownsRow w.heap.size 5 1 (.slice A l.length c) l.length (u8s l) ∧ Tab w' g ∧ w.grownBy w' (some g)
set_option maxRecDepth 100000 in
set_option maxHeartbeats 2000000 in
theorem fput7_any (g n c B : Nat) (A : Option Addr) (l : List Nat) (w : World) (hT : Tab w g) (hb : Bytes w B A n l) (hB : B ≤ g) (hn : n ≤ 9223372036854775807) : Calls Try.prog 30 #[.pointer (some ⟨g, 0, none⟩), .slice A n c] w (PutG w g (Fr.bytes l) (Fr.err l)) := by
  have hlen := hb.1
  by_cases h8 : 8192 < n
  · have e1 : Fr.bytes l = [] := by unfold Fr.bytes; rw [if_pos (by omega)]
    have e2 : Fr.err l = 71 := by unfold Fr.err; rw [if_pos (by omega)]
    rw [e1, e2]
    have HT := Lib.hid hT
    clear hb e1 e2 hT
    go_enter Try.func30, Try.ntmps30
    go_wp2_with fail
    go_ret2
    exact ⟨none, 0, rfl, own_nil _ _ _ _, HT.out, World.grownBy.refl _ _⟩
  · have e1 : Fr.bytes l = Fr.enc l := by unfold Fr.bytes; rw [if_neg (by omega)]
    have e2 : Fr.err l = 0 := by unfold Fr.err; rw [if_neg (by omega)]
    rw [e1, e2]
    have HT := Lib.hid hT
    have HB := Lib.hid (And.intro hb hB)
    have h256 : ∀ x ∈ l, x < 256 := hb.2.1
    have hg := hT.lt
    have HE : Hid (Fr.enc l = be4 n ++ l ++ be4 (Crc.upd 0 l) ∧ (Fr.enc l).length = n + 8) := Lib.hid ⟨by unfold Fr.enc; rw [hlen, crc_one], by rw [Fr.enc_len, hlen]⟩
    clear e1 e2 hb hB hT h256
    go_enter Try.func30, Try.ntmps30
    go_wp2_with fail
    refine (put32_any _ n w (by first | exact u32w n (by omega) | omega) (by omega)).mono ?_
    rintro e w1 ⟨A1, c1, rfl, ho1, b1⟩
    rw [be_four n (by omega)] at ho1
    have HO1 := Lib.hid (And.intro ho1 b1)
    clear ho1 b1
    go_wp2_with fail
    refine (tableUpdate_any g 0 n c B A l w1 (HT.out.below HO1.out.2 hg) (by omega) (HB.out.1.below HO1.out.2 (by have := HB.out.2; omega)) HB.out.2 (by have := HB.out.2; have := HO1.out.2.size; omega) hn).mono ?_
    rintro e w2 ⟨rfl, hm, hgr⟩
    obtain ⟨s, hs⟩ : ∃ s, Crc.upd 0 l = s := ⟨_, rfl⟩
    have hsl : s < 4294967296 := by rw [← hs]; exact Crc.upd_lt 0 l
    rw [hs] at HE ⊢
    have HO2 := Lib.hid (And.intro (own_tab HO1.out.1 hgr hg) (And.intro hm (And.intro ((grown_of_below HO1.out.2 (some g)).trans hgr) (((HB.out.1.below HO1.out.2 (by have := HB.out.2; omega)).grown hgr (by have := HB.out.2; have := HO1.out.2.size; omega) HB.out.2)))))
    clear hs hm hgr
    go_wp2_with fail
    refine (put32_any _ s w2 rfl hsl).mono ?_
    rintro e w3 ⟨A3, c3, rfl, ho3, b3⟩
    rw [be_four s hsl] at ho3
    have z2 := HO2.out.2.2.1.size
    have z3 := b3.size
    have y1 := own_bytes HO2.out.1 (be4_lt n (by omega)) b3
    have y2 := (HO2.out.2.2.2.below b3 (by have := HB.out.2; omega)).more (B' := w3.heap.size) (by have := HB.out.2; omega)
    have y3 := own_bytes ho3 (be4_lt s hsl) (Below.refl _ _)
    have HY := Lib.hid (rows_three (c1 := c1) (c2 := c) (c3 := c3) (t := 24) y1 y2 y3 (Nat.le_refl _) (by omega) (by omega) (by omega))
    have HG3 := Lib.hid (And.intro ((Tab.below (.inr HO2.out.2.1) b3 (by omega)) : Tab w3 g) (HO2.out.2.2.1.trans (grown_of_below b3 (some g))))
    clear ho3 b3 y1 y2 y3
    go_wp2_with fail
    refine (join_as (L := Fr.enc l) (m := n + 8) (by rw [HE.out.1]; simp) HE.out.2 (by omega) HY.out (by simp) (by omega)).mono ?_
    rintro e w4 ⟨A4, c4, rfl, ho4, b4⟩
    have HO4 := Lib.hid (And.intro (own_lower ho4 (b' := w.heap.size) (by simp; omega)) (And.intro (Tab.below (HG3.out.1.below ((Below.refl w3.heap.size w3).alloc (Nat.le_refl _) _) (by omega)) b4 (by simp; omega)) ((HG3.out.2.trans (World.grownBy_alloc w3 _ (some g))).trans (grown_of_below b4 (some g)))))
    clear ho4 b4 z3
    go_wp2_with fail
    go_ret2
    rw [← HE.out.2] at HO4 ⊢
    exact ⟨A4, c4, rfl, HO4.out.1, HO4.out.2.1, HO4.out.2.2⟩
set_option maxRecDepth 100000 in
set_option maxHeartbeats 1000000 in
theorem fPut7_any (n c B : Nat) (A : Option Addr) (l : List Nat) (w : World) (hb : Bytes w B A n l) (hB : B ≤ w.heap.size) (hn : n ≤ 9223372036854775807) : Calls Try.prog 15 #[.slice A n c] w (PutB w (Fr.bytes l) (Fr.err l)) := by
  obtain ⟨cs, hz, hnew⟩ := blank_ex
  have HT : Hid (Tab (w.alloc (.cells cs 75)) w.heap.size) := Lib.hid (.inl (hnew w))
  have HB := Lib.hid (hb.alloc hB (.cells cs 75))
  clear hb hnew
  go_enter Try.func15, Try.ntmps15
  go_wp2_with fail
  refine (fput7_any w.heap.size n c B A l _ HT.out HB.out hB hn).mono ?_
  rintro e w1 ⟨A1, c1, rfl, ho, -, hg⟩
  have HO := Lib.hid (And.intro (own_lower ho (b' := w.heap.size) (by simp)) (below_new hg))
  clear ho hg hz
  go_wp2_with fail
  go_ret2
  exact ⟨A1, c1, rfl, HO.out.1, HO.out.2⟩
set_option maxRecDepth 100000 in
theorem fnumber_any (c B : Nat) (A : Option Addr) (l : List Nat) (w : World) (hb : Bytes w B A 4 l) (hB : B ≤ w.heap.size) : Calls Try.prog 40 #[.slice A 4 c] w fun e w' => e = .returned (.int .u32 ((Pk.num l : Nat) : Int)) ∧ Below w.heap.size w w' := by
  have hl : l.length = 4 := hb.1
  have HB := Lib.hid hb
  clear hb
  go_enter Try.func40, Try.ntmps40
  go_wp2_with fail
  refine (of_any 4 c B A l w HB.out hB (by omega)).mono ?_
  rintro e w1 ⟨g, rfl, hr, hg, b1⟩
  have HR := Lib.hid (And.intro hr b1)
  clear hr b1
  go_wp2_with fail
  refine (u32_any w.heap.size g l false w1 HR.out.1).mono ?_
  rintro e w2 ⟨rfl, -, hgr⟩
  rw [Pk.taken_no (Pk.fails_no (by omega)), List.take_of_length_le (by omega)]
  have HBL := Lib.hid (grow_bel HR.out.2 hgr (fun k hk => by injection hk with hk; omega))
  clear hgr
  go_wp2_with fail
  go_ret
  exact ⟨rfl, HBL.out⟩
end Go.Proofs.Ytnokbnobnhkmgaa
