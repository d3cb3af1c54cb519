/- Layer 4's reference: rows of parts in memory; a row, written. -/
import Derived.Test.YtponelbfddfliaaRefK
namespace Go.Proofs.Ytponelbfddfliaa
open Go.ChangeShapes Go.WideShapes Go.ChangeAt Go.RowKit

/-- A part as the program has it: kind, number, text. -/
structure PT where
  k : Nat
  n : Int
  s : ByteArray
def PT.to (p : PT) : Ky.Part := ⟨p.k, p.n, nums p.s⟩
def PT.val (p : PT) : Value := partV p.k p.n p.s
def PT.ok (p : PT) : Prop := p.k < 256 ∧ (-9223372036854775808 ≤ p.n ∧ p.n ≤ 9223372036854775807) ∧ p.s.size ≤ 1000000
instance : Inhabited PT := ⟨⟨0, 0, ByteArray.empty⟩⟩
theorem refPart_any (p : PT) (w : World) (h : p.ok) : Calls Try.prog 73 #[p.val] w (TextP w (Ky.enc p.to)) := by
  unfold Ky.enc
  by_cases hk : p.k = 1
  · rw [if_pos (show p.to.kind = 1 from hk)]
    unfold PT.val
    rw [hk]
    exact refPart_int p.n p.s w h.2.1
  · rw [if_neg (show ¬ p.to.kind = 1 from hk)]
    exact refPart_text p.k p.n p.s w hk h.2.2
/-- A slice at A, of n parts, below block B, reads as l. -/
def Parts (w : World) (B : Nat) (A : Option Addr) (n : Nat) (l : List PT) : Prop :=
  l.length = n ∧ (∀ p ∈ l, p.ok) ∧ (0 < n → ∃ b off, A = some ⟨b, off, none⟩ ∧ b < B ∧ ∀ i, i < n →
    w.cell? ⟨b, off + i * 3, none⟩ = some (.int .u8 ((l.getD i default).k : Int)) ∧ w.cell? ⟨b, off + i * 3 + 1, none⟩ = some (.int .i64 (l.getD i default).n) ∧ w.cell? ⟨b, off + i * 3 + 2, none⟩ = some (.string (l.getD i default).s))
theorem Parts.keep {w w' : World} {B n : Nat} {A : Option Addr} {l : List PT} (h : Parts w B A n l) (hk : ∀ b o, b < B → w'.cell? ⟨b, o, none⟩ = w.cell? ⟨b, o, none⟩) : Parts w' B A n l :=
  ⟨h.1, h.2.1, fun hn => by
    obtain ⟨b, off, e, hb, hc⟩ := h.2.2 hn
    refine ⟨b, off, e, hb, fun i hi => ?_⟩
    obtain ⟨h1, h2, h3⟩ := hc i hi
    exact ⟨(hk b _ hb).trans h1, (hk b _ hb).trans h2, (hk b _ hb).trans h3⟩⟩
theorem Parts.below {w w' : World} {B B' n : Nat} {A : Option Addr} {l : List PT} (h : Parts w B A n l) (hb : Below B' w w') (hB : B ≤ B') : Parts w' B A n l := h.keep fun b o hp => hb.cell (p := ⟨b, o, none⟩) (by show b < B'; omega)
theorem Parts.more {w : World} {B B' n : Nat} {A : Option Addr} {l : List PT} (h : Parts w B A n l) (hB : B ≤ B') : Parts w B' A n l :=
  ⟨h.1, h.2.1, fun hn => by
    obtain ⟨b, off, e, hb, hc⟩ := h.2.2 hn
    exact ⟨b, off, e, by omega, hc⟩⟩
theorem Parts.nil {w : World} {B : Nat} {A : Option Addr} : Parts w B A 0 [] := ⟨rfl, by simp, fun h => absurd h (by omega)⟩
theorem Parts.ok_at {w : World} {B n : Nat} {A : Option Addr} {l : List PT} (h : Parts w B A n l) {i : Nat} (hi : i < n) : (l.getD i default).ok := by
  have hl : i < l.length := by rw [h.1]; exact hi
  rw [List.getD_eq_getElem?_getD, List.getElem?_eq_getElem hl]
  exact h.2.1 _ (List.getElem_mem hl)
def tos (l : List PT) : List Ky.Part := l.map PT.to
theorem enc_len (p : PT) (h : p.ok) : (Ky.enc p.to).length ≤ 2000002 := by
  unfold Ky.enc
  split
  · rw [Pk.be_len]; omega
  · unfold Ky.text
    have h1 := esc_len (nums p.s)
    have h2 := nums_len p.s
    have h3 := h.2.2
    rw [List.length_append]
    show (Ky.esc (nums p.s)).length + 2 ≤ 2000002
    omega
theorem nums_append (a b : ByteArray) : nums (a ++ b) = nums a ++ nums b := by simp [nums]
theorem put_step (l : List PT) (i : Nat) (h : i < l.length) : Ky.put (tos (l.take (i + 1))) = Ky.put (tos (l.take i)) ++ Ky.enc (l.getD i default).to := by
  rw [List.take_succ_eq_append_getElem h, List.getD_eq_getElem?_getD, List.getElem?_eq_getElem h]
  rw [tos, List.map_append, Ky.put_append]
  simp [tos, Ky.put]
set_option maxRecDepth 100000 in
set_option maxHeartbeats 1000000 in
theorem refPut_any (n c B : Nat) (A : Option Addr) (l : List PT) (w : World) (h : Parts w B A n l) (hB : B ≤ w.heap.size) (hn : n ≤ 1000) :
    Calls Try.prog 50 #[.slice A n c] w (TextP w (Ky.put (tos l))) := by
  have HP := Lib.hid h
  clear h
  go_enter Try.func50, Try.ntmps50
  go_wp2_with fail
  go_loopw [3, 4] (fun r i wr => ∃ (j : Nat) (T : ByteArray), j ≤ n ∧ i = .int .i64 (j : Int) ∧ r = .string T ∧ nums T = Ky.put (tos (l.take j)) ∧ T.size ≤ j * 2000002 ∧ Below w.heap.size w wr) (fun _ i _ => n - (intOf i).toNat)
  case atStart => exact ⟨0, ⟨#[]⟩, by omega, rfl, rfl, rfl, by decide, Below.refl _ _⟩
  case round =>
    obtain ⟨j, T, hj, rfl, rfl, hT, hTs, hbel⟩ := hrel
    have HT := Lib.hid hT
    clear hT
    by_cases hlt : j < n
    · obtain ⟨b, off, rfl, hbB, hc⟩ := (HP.out.below hbel hB).2.2 (by omega)
      obtain ⟨h1, h2, h3⟩ := hc j hlt
      have hok := HP.out.ok_at hlt
      have hst := put_step l j (by rw [HP.out.1]; exact hlt)
      generalize l.getD j default = p at h1 h2 h3 hok hst
      have HST := Lib.hid hst
      have HB := Lib.hid hbel
      clear hc hst hbel
      go_wp2_with fail
      refine (refPart_any p wr hok).mono ?_
      rintro e w1 ⟨U, rfl, hU, hUs, b1⟩
      have HU := Lib.hid (And.intro hU hUs)
      have HB1 := Lib.hid (below_next HB.out b1)
      have hel := enc_len p hok
      have hjn : j * 2000002 ≤ 1000 * 2000002 := Nat.mul_le_mul_right _ (by omega)
      have hsz : T.size + U.size ≤ 9223372036854775807 := by omega
      have hsm : T.size + U.size ≤ maxLen := hsz
      have hun : U.size ≤ 2000002 := by omega
      clear hU hUs b1 h1 h2 h3
      go_wp2_with fail
      refine ⟨⟨j + 1, T ++ U, by omega, by go_num, rfl, ?_, ?_, HB1.out⟩, by simp [intOf]; omega⟩
      · rw [nums_append, HT.out, HU.out.1, HST.out]
      · rw [ByteArray.size_append]; omega
    · obtain rfl : n = j := by omega
      go_wp2_with fail
      go_ret
      exact ⟨T, rfl, by rw [HT.out, List.take_of_length_le (by rw [HP.out.1]; omega)], by rw [← nums_len, HT.out, List.take_of_length_le (by rw [HP.out.1]; omega)], hbel⟩
end Go.Proofs.Ytponelbfddfliaa
