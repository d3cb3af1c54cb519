/- Rows of bytes in memory, and what a table of layer 1 makes of them. -/
import Derived.Test.YtflfmcicidgkmaaWalkD
namespace Go.Proofs.Ytflfmcicidgkmaa
open Go.ChangeShapes Go.WideShapes Go.ChangeAt Go.RowKit

/-- A slice at A, of n bytes, below block B, reads as l. -/
def Bytes (w : World) (B : Nat) (A : Option Addr) (n : Nat) (l : List Nat) : Prop :=
  l.length = n ∧ (∀ x ∈ l, x < 256) ∧ (0 < n → ∃ b off, A = some ⟨b, off, none⟩ ∧ b < B ∧ ∀ i, i < n → w.cell? ⟨b, off + i, none⟩ = some (.int .u8 ((l.getD i 0 : Nat) : Int)))

section
variable {w w' : World} {B B' n : Nat} {A : Option Addr} {l : List Nat}
theorem Bytes.keep (h : Bytes w B A n l) (hk : ∀ b o, b < B → w'.cell? ⟨b, o, none⟩ = w.cell? ⟨b, o, none⟩) : Bytes w' B A n l :=
  ⟨h.1, h.2.1, fun hn => by
    obtain ⟨b, off, e, hb, hc⟩ := h.2.2 hn
    exact ⟨b, off, e, hb, fun i hi => (hk b _ hb).trans (hc i hi)⟩⟩
theorem Bytes.more (h : Bytes w B A n l) (hB : B ≤ B') : Bytes w B' A n l :=
  ⟨h.1, h.2.1, fun hn => by
    obtain ⟨b, off, e, hb, hc⟩ := h.2.2 hn
    exact ⟨b, off, e, by omega, hc⟩⟩
theorem Bytes.below (h : Bytes w B A n l) (hb : Below B' w w') (hB : B ≤ B') : Bytes w' B A n l := h.keep fun b o hp => hb.cell (p := ⟨b, o, none⟩) (by show b < B'; omega)
theorem Bytes.alloc (h : Bytes w B A n l) (hB : B ≤ w.heap.size) (o : Obj) : Bytes (w.alloc o) B A n l := h.keep fun b f hp => World.cell?_alloc_lt w o ⟨b, f, none⟩ (by show b < w.heap.size; omega)
theorem Bytes.grown (h : Bytes w B A n l) {g : Nat} (hg : w.grownBy w' (some g)) (hB : B ≤ w.heap.size) (hr : B ≤ g) : Bytes w' B A n l :=
  h.keep fun b o hp => World.cell?_of_block (a := ⟨b, o, none⟩) (hg.block b (by omega) (fun e => by injection e with e; omega))
theorem Bytes.nil : Bytes w B A 0 [] := ⟨rfl, by simp, fun h => absurd h (by omega)⟩
theorem Bytes.lt (h : Bytes w B A n l) (k : Nat) : l.getD k 0 < 256 := by
  rw [List.getD_eq_getElem?_getD]
  rcases hx : l[k]? with _ | x
  · simp
  · simp only [Option.getD_some]
    exact h.2.1 x (List.mem_of_getElem? hx)
theorem Bytes.take_lt (h : Bytes w B A n l) (k : Nat) : ∀ x ∈ l.take k, x < 256 := fun x hx => h.2.1 x (List.mem_of_mem_take hx)
end

theorem take_snoc (l : List Nat) (k : Nat) (h : k < l.length) : l.take (k + 1) = l.take k ++ [l.getD k 0] := by
  rw [List.take_succ_eq_append_getElem h, List.getD_eq_getElem?_getD, List.getElem?_eq_getElem h]; rfl

set_option maxRecDepth 100000 in
theorem tableTake_any (g r b : Nat) (w : World) (h : Made w g) (hr : r < 4294967296) (hb : b < 256) :
    Calls Try.prog 27 #[.pointer (some ⟨g, 0, none⟩), .int .u32 (r : Int), .int .u8 (b : Int)] w fun e w' => e = .returned (.int .u32 ((Crc.take r b : Nat) : Int)) ∧ w = w' := by
  obtain ⟨cs, hbk, hn, c0, hc⟩ := h
  have hx : r % 256 ^^^ b < 256 := Crc.xor8_lt (by omega) hb
  have h8 : bits .xor .u8 ((r : Int) % 256) (b : Int) = ((r % 256 ^^^ b : Nat) : Int) := u8_xor_nat (r % 256) b (by omega) hb
  have hcell : w.cell? ⟨g, 3 + (r % 256 ^^^ b), none⟩ = some (.int .u32 ((Crc.eight (r % 256 ^^^ b) : Nat) : Int)) := by rw [hbk.cell]; exact hc _ hx
  have hfin : bits .xor .u32 ((Crc.eight (r % 256 ^^^ b) : Nat) : Int) ((r : Int) / 256) = ((Crc.take r b : Nat) : Int) := by
    rw [← Crc.take_table r b hb]
    exact u32_xor_nat (Crc.eight (r % 256 ^^^ b)) (r / 256) (Crc.eight_lt (by omega)) (by omega)
  generalize r % 256 ^^^ b = x at *
  have HF := Lib.hid hfin
  clear hbk hn c0 hc hfin
  go_enter Try.func27, Try.ntmps27
  go_wp2
  go_ret
  exact ⟨ret_int HF.out, rfl⟩

theorem not_u32 (s : Nat) (hs : s < 4294967296) : bits .xor .u32 IntKind.u32.max (s : Int) = ((4294967295 - s : Nat) : Int) := by
  have h := u32_xor_nat 4294967295 s (by omega) hs
  rw [Crc.not_xor hs] at h
  exact h

/-- Behind k bytes of a row. -/
theorem run_step {w : World} {B n k : Nat} {A : Option Addr} {l : List Nat} (h : Bytes w B A n l) (hk : k < n) (r : Nat) : Crc.run r (l.take (k + 1)) = Crc.take (Crc.run r (l.take k)) (l.getD k 0) := by
  rw [take_snoc l k (by rw [h.1]; exact hk), Crc.run_snoc]
theorem run_all {w : World} {B n k : Nat} {A : Option Addr} {l : List Nat} (h : Bytes w B A n l) (hk : ¬ k < n) (r : Nat) : Crc.run r (l.take k) = Crc.run r l := by
  rw [List.take_of_length_le (by rw [h.1]; omega)]

set_option maxRecDepth 100000 in
theorem tableUpdate_any (g s n c B : Nat) (A : Option Addr) (l : List Nat) (w : World) (hT : Blank w g ∨ Made w g) (hs : s < 4294967296) (hb : Bytes w B A n l) (hB : B ≤ g) (hB' : B ≤ w.heap.size) (hn : n ≤ 9223372036854775807) :
    Calls Try.prog 16 #[.pointer (some ⟨g, 0, none⟩), .int .u32 (s : Int), .slice A n c] w fun e w' => e = .returned (.int .u32 ((Crc.upd s l : Nat) : Int)) ∧ (Made w' g ∧ w.grownBy w' (some g)) := by
  have hx : bits .xor .u32 IntKind.u32.max (s : Int) = ((4294967295 - s : Nat) : Int) := not_u32 s hs
  have hu : Crc.upd s l = 4294967295 - Crc.run (4294967295 - s) l := rfl
  have hr0 : 4294967295 - s < 4294967296 := by omega
  generalize 4294967295 - s = r0 at *
  have HU := Lib.hid hu
  clear hu
  go_enter Try.func16, Try.ntmps16
  go_wp2_with fail
  refine (do_any g _ hT).mono ?_
  rintro e w1 ⟨rfl, hm, hg⟩
  have hb1 := hb.grown hg hB' hB
  clear hb hT
  go_wp2_with fail
  go_loop [7, 25] (fun t i => ∃ k : Nat, k ≤ n ∧ i = .int .i64 k ∧ t = .int .u32 ((Crc.run r0 (l.take k) : Nat) : Int)) (fun _ i => n - (intOf i).toNat)
  case atStart => exact ⟨0, by omega, rfl, rfl⟩
  case round =>
    obtain ⟨k, hk, rfl, rfl⟩ := hrel
    clear hx
    have hlr : Crc.run r0 (l.take k) < 4294967296 := Crc.run_lt hr0 (hb1.take_lt k)
    by_cases hlt : k < n
    · obtain ⟨b, off, rfl, hbB, hc⟩ := hb1.2.2 (by omega)
      have hck := hc k hlt
      have h8 := hb1.lt k
      have HS := Lib.hid (run_step hb1 hlt r0)
      generalize l.getD k 0 = x at *
      generalize Crc.run r0 (l.take k) = r at *
      clear hc
      go_wp2_with (go_at_call 27; refine (tableTake_any g _ _ _ hm hlr h8).mono ?_; rintro e w' ⟨rfl, rfl⟩)
      go_round
      case rel => exact ⟨k + 1, by omega, by go_num, by rw [HS.out]⟩
      case measure => simp [intOf]; omega
    · have hfin := not_u32 _ hlr
      rw [run_all hb1 hlt, ← HU.out] at hfin
      have HF := Lib.hid hfin
      have HA := Lib.hid (run_all hb1 hlt r0)
      rw [HA.out] at hlr ⊢
      clear hfin
      go_wp2_with fail
      go_ret
      exact ⟨ret_int HF.out, hm, hg⟩
end Go.Proofs.Ytflfmcicidgkmaa
