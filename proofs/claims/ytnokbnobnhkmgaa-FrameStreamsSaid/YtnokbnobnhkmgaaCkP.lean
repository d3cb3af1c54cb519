/- Layer 1, the program: checks, as later stages lean on them (stage 1's walks, over the common words of memory). -/
import Derived.Test.YtnokbnobnhkmgaaCkR
import Derived.WalkKit
import Derived.ProofKit
import Derived.Laws.BitsAllLaws
import Derived.Lib.Hide
import Derived.Below
import Derived.Laws.OwnMore
import Derived.Deep.Draws
import Derived.Laws.Rows
import Derived.Deep.RegionWith
import Derived.Outline
import Derived.Tactics
import Derived.Tactics2
import Derived.Defers
import Derived.Laws.Pointers
import Derived.Laws.LoneSync
import Derived.RegionTactic
import Derived.RegionCalls
import Derived.ChangeAlike
import Derived.Laws.NewBlocks
import Derived.Maps.AppendAt
import Derived.Deep.QuietTactic
import Derived.BigQuiet
import Derived.Laws.AppendOwn
import Derived.Laws.AppendOwnNone
import Derived.Deep.AppendLies
import Derived.Lib.ConvBytes
import Derived.Laws.BytesArg
namespace Go.Proofs.Ytnokbnobnhkmgaa
open Go.ChangeShapes Go.WideShapes Go.ChangeAt Go.RowKit

theorem bits_and_one (c : Nat) (hc : c < 4294967296) : bits .and .u32 (c : Int) 1 = ((c % 2 : Nat) : Int) := by
  have h := u32_and_nat c 1 hc (by omega)
  rw [Nat.and_one_is_mod] at h
  exact h
theorem halved_any (n : Int) (w : World) (h0 : 0 ≤ n) (h1 : n < 4294967296) :
    Calls Try.prog 53 #[.int .u32 n] w fun e w' => e = .returned (.int .u32 ((Crc.eight n.toNat : Nat) : Int)) ∧ w = w' := by
  go_enter Try.func53, Try.ntmps53
  go_wp2
  go_loop [0, 4] (fun t i => ∃ k c : Nat, k ≤ 8 ∧ i = .int .i64 k ∧ c < 4294967296 ∧ Crc.halves (8 - k) c = Crc.eight n.toNat ∧ t = .int .u32 c) (fun _ i => 8 - (intOf i).toNat)
  case atStart => exact ⟨0, n.toNat, by omega, rfl, by omega, rfl, by rw [Int.toNat_of_nonneg h0]⟩
  case round =>
    obtain ⟨k, c, hk, rfl, hc, hh, rfl⟩ := hrel
    have HH := Lib.hid hh
    clear hh
    by_cases hlt : k < 8
    · have he := bits_and_one c hc
      by_cases hp : c % 2 = 1
      · have hb : (((c % 2 : Nat) : Int) == 1) = true := by rw [hp]; rfl
        have HP := Lib.hid hp
        clear hp
        go_wp2
        go_round
        case rel => exact ⟨k + 1, Crc.half c, by omega, by go_num, Crc.half_lt hc, halves_step hlt HH.out, int_eq (by rw [bits_xor_poly c hc, half_odd c HP.out])⟩
        case measure => simp [intOf]; omega
      · have hb : (((c % 2 : Nat) : Int) == 1) = false := by simp; omega
        have HP := Lib.hid hp
        clear hp
        go_wp2
        go_round
        case rel => exact ⟨k + 1, Crc.half c, by omega, by go_num, Crc.half_lt hc, halves_step hlt HH.out, int_eq (by rw [half_even c HP.out]; omega)⟩
        case measure => simp [intOf]; omega
    · go_wp2
      go_ret
      exact ⟨ret_int (by rw [halves_end hlt HH.out]), rfl⟩
/-- The first k of a table's row are made; what is ahead of the row is as in cs. -/
def Filled (cs : Array Value) (k : Nat) (w : World) (g : Nat) (w' : World) : Prop :=
  ∃ cs', Blk w' g 75 cs' ∧ cs'.size = 259 ∧ (∀ i, i < 3 → cs'[i]? = cs[i]?) ∧ (∀ i, i < k → cs'[3 + i]? = some (.int .u32 ((Crc.eight i : Nat) : Int))) ∧ w.grownBy w' (some g)
theorem Filled.step {cs : Array Value} {k : Nat} {w wr : World} {g : Nat} (h : Filled cs k w g wr) (hk : k < 256) :
    Filled cs (k + 1) w g (wr.drew.setCell ⟨g, 3 + k, none⟩ (.int .u32 ((Crc.eight k : Nat) : Int))) := by
  obtain ⟨cs', hb, hn, h1, h2, h3⟩ := h
  have hb' : Blk wr.drew g 75 cs' := hb
  refine ⟨_, hb'.set_ (3 + k) _, by simpa using hn, fun i hi => ?_, fun i hi => ?_, only_setCell (only_drew h3) _ _⟩
  · rw [Array.getElem?_setIfInBounds_ne (by omega)]
    exact h1 i hi
  · by_cases e : i = k
    · subst e
      rw [Array.getElem?_setIfInBounds_self_of_lt (by omega)]
    · rw [Array.getElem?_setIfInBounds_ne (by omega)]
      exact h2 i (by omega)
set_option maxRecDepth 100000 in
theorem fill_any (g : Nat) (cs : Array Value) (w : World) (hb : Blk w g 75 cs) (hn : cs.size = 259) :
    Calls Try.prog 46 #[.pointer (some ⟨g, 0, none⟩)] w fun e w' => e = .returned (.tuple #[]) ∧ Filled cs 256 w g w' := by
  go_enter Try.func46, Try.ntmps46
  go_wp2
  go_loopw [3] (fun i wr => ∃ k : Nat, k ≤ 256 ∧ i = .int .i64 k ∧ Filled cs k w g wr) (fun i _ => 256 - (intOf i).toNat)
  case atStart => exact ⟨0, by omega, rfl, cs, hb, hn, fun _ _ => rfl, fun i hi => absurd hi (by omega), World.grownBy.refl w _⟩
  case round =>
    obtain ⟨k, hk, rfl, hf⟩ := hrel
    by_cases hlt : k < 256
    · obtain ⟨cs', hb', hn', -⟩ := id hf
      obtain ⟨x, hc⟩ : ∃ x, wr.cell? ⟨g, 3 + k, none⟩ = some x := ⟨_, by rw [hb'.cell]; exact Array.getElem?_eq_getElem (by omega)⟩
      have hz := hb'.frozen (3 + k)
      have hwk : IntKind.u32.wrap (k : Int) = k := by rw [IntKind.wrap_u32']; omega
      clear hb' hn' hn hb
      go_wp2
      go_region_with (go_at_call 53; refine (halved_any _ _ (by omega) (by omega)).mono ?_; rintro e w' ⟨rfl, rfl⟩)
      go_wp2
      go_roundw
      case rel => exact ⟨k + 1, by omega, by go_num, hf.step hlt⟩
      case measure => simp [intOf]; omega
    · obtain rfl : k = 256 := by omega
      clear hn hb
      go_wp2
      go_end0
      exact ⟨rfl, hf⟩
theorem disable (w : World) : (callFunc 64 #[]).run Try.prog w = .ok (.value (.tuple #[])) w := run_call_mark0 Try.func64 (by kernel_rfl) (by kernel_rfl) (by kernel_rfl) .disable (by kernel_rfl) w
theorem enable (w : World) : (callFunc 66 #[]).run Try.prog w = .ok (.value (.tuple #[])) w := run_call_mark0 Try.func66 (by kernel_rfl) (by kernel_rfl) (by kernel_rfl) .enable (by kernel_rfl) w
theorem acquire (a : Addr) (w : World) : (callFunc 67 #[.pointer (some a)]).run Try.prog w = .ok (.value (.tuple #[])) w := run_call_marked Try.func67 (by kernel_rfl) (by kernel_rfl) (by kernel_rfl) .acquire (by kernel_rfl) a w
theorem releaseMerge (a : Addr) (w : World) : (callFunc 69 #[.pointer (some a)]).run Try.prog w = .ok (.value (.tuple #[])) w := run_call_marked Try.func69 (by kernel_rfl) (by kernel_rfl) (by kernel_rfl) .releaseMerge (by kernel_rfl) a w
theorem store_deferred (a : Addr) (x : Value) (u : FrameMode) (w : World) (hc : w.cell? a = some x) (hz : w.frozen? a = false) :
    CallsD Try.prog 59 #[.pointer (some a), .bool true] u w fun e u' w' => u' = u ∧ (e = .returned (.tuple #[]) ∧ w' = w.drew.setCell a (.int .u32 1)) := by
  have hc' : w.drew.cell? a = some x := by go_simp
  have hz' : w.drew.frozen? a = false := by go_simp
  have hst := run_call_store (P := Try.prog) Try.func62 (by kernel_rfl) (by kernel_rfl) (by kernel_rfl) (by kernel_rfl) (k := .u32) (y := 1) hc' hz'
  go_enter_d Try.func59, Try.ntmps59
  go_wp2
  go_region_calls
  all_goals (go_end0; exact ⟨rfl, rfl⟩)
set_option maxRecDepth 100000 in
theorem unlock_deferred (a : Addr) (u : FrameMode) (w : World) (hc : w.cell? a = some (.int .i32 1)) (hz : w.frozen? a = false) :
    CallsD Try.prog 58 #[.pointer (some a)] u w fun e u' w' => u' = u ∧ (e = .returned (.tuple #[]) ∧ w' = w.setCell a (.int .i32 0)) := by
  have hd := disable
  have he := enable
  have hr := releaseMerge
  have hadd := run_call_add (P := Try.prog) Try.func70 (by kernel_rfl) (by kernel_rfl) (by kernel_rfl) .i32 (by kernel_rfl) (y := -1) (s := 0) hc hz (by simp [go_sem]; rfl)
  have hcv := run_convert_to_unsafe (P := Try.prog) (src := 110) (dst := 114) Try.underlying110 Try.underlying114 (by kernel_rfl) hc
  go_enter_d Try.func58, Try.ntmps58
  go_wp2
  go_end0
  go_wp2
  go_end0
  exact ⟨rfl, rfl⟩
set_option maxRecDepth 100000 in
theorem lock_free (a : Addr) (w : World) (hc : w.cell? a = some (.int .i32 0)) (hz : w.frozen? a = false) :
    Calls Try.prog 57 #[.pointer (some a)] w fun e w' => e = .returned (.tuple #[]) ∧ w' = w.setCell a (.int .i32 1) := by
  have hd := disable
  have he := enable
  have ha := acquire
  have hcas := run_call_cas_hit (P := Try.prog) Try.func65 (by kernel_rfl) (by kernel_rfl) (by kernel_rfl) .i32 (by kernel_rfl) (y := 1) hc hz
  have hc' : (w.setCell a (.int .i32 1)).cell? a = some (.int .i32 1) := World.cell?_setCell_same w a _ hc
  have hcv := run_convert_to_unsafe (P := Try.prog) (src := 110) (dst := 114) Try.underlying110 Try.underlying114 (by kernel_rfl) hc'
  go_enter Try.func57, Try.ntmps57
  go_wp2
  first | go_end0 | (simp only [Exit.inBlock, Exit.then]; refine bodyPost_ret (results_none rfl _ _ _) rfl ?_) | refine bodyPost_ret (results_none rfl _ _ _) rfl ?_
  go_wp2
  go_end0
  exact ⟨rfl, rfl⟩
/-- A table that no one has asked yet. -/
def Blank (w : World) (g : Nat) : Prop := ∃ cs, Blk w g 75 cs ∧ cs.size = 259 ∧ cs[0]? = some (.int .u32 0) ∧ cs[1]? = some (.int .i32 0)
/-- A table that was made. -/
def Made (w : World) (g : Nat) : Prop := ∃ cs, Blk w g 75 cs ∧ cs.size = 259 ∧ cs[0]? = some (.int .u32 1) ∧ ∀ i, i < 256 → cs[3 + i]? = some (.int .u32 ((Crc.eight i : Nat) : Int))
theorem Made.keep {w w' : World} {g : Nat} (h : Made w g) (hb : w'.heap[g]? = w.heap[g]?) : Made w' g := by
  obtain ⟨cs, h1, h2⟩ := h
  exact ⟨cs, hb.trans h1, h2⟩
theorem Made.below {w w' : World} {B g : Nat} (h : Made w g) (hb : Below B w w') (hg : g < B) : Made w' g := h.keep (hb.block g hg)
theorem Made.lt {w : World} {g : Nat} (h : Made w g) : g < w.heap.size := by
  obtain ⟨cs, h1, _⟩ := h
  exact h1.lt
theorem set0 {cs : Array Value} {i : Nat} (h : cs.size = 259) (hi : i < 259) (u : Value) : (cs.setIfInBounds i u)[i]? = some u := Array.getElem?_setIfInBounds_self_of_lt (by omega)
theorem setN {cs : Array Value} {i j : Nat} (hi : i ≠ j) (u : Value) : (cs.setIfInBounds i u)[j]? = cs[j]? := Array.getElem?_setIfInBounds_ne hi
/-- What doSlow leaves, of the table that fill leaves. -/
theorem made_of_filled {w w2 : World} {g : Nat} {cs : Array Value} (hn : cs.size = 259)
    (hf : Filled (cs.setIfInBounds 1 (.int .i32 1)) 256 (w.setCell ⟨g, 1, none⟩ (.int .i32 1)) g w2) :
    w2.cell? ⟨g, 0, none⟩ = cs[0]? ∧ w2.frozen? ⟨g, 0, none⟩ = false ∧ (w2.drew.setCell ⟨g, 0, none⟩ (.int .u32 1)).cell? ⟨g, 1, none⟩ = some (.int .i32 1) ∧
    (w2.drew.setCell ⟨g, 0, none⟩ (.int .u32 1)).frozen? ⟨g, 1, none⟩ = false ∧
    Made ((w2.drew.setCell ⟨g, 0, none⟩ (.int .u32 1)).setCell ⟨g, 1, none⟩ (.int .i32 0)) g ∧
    w.grownBy ((w2.drew.setCell ⟨g, 0, none⟩ (.int .u32 1)).setCell ⟨g, 1, none⟩ (.int .i32 0)) (some g) := by
  obtain ⟨cs', hb', hn', h1, h2, h3⟩ := hf
  have hbd : Blk w2.drew g 75 cs' := hb'
  have hb0 := hbd.set_ 0 (.int .u32 1)
  have hb1 := hb0.set_ 1 (.int .i32 0)
  have h31 : w.grownBy (w.setCell ⟨g, 1, none⟩ (.int .i32 1)) (some g) := only_setCell (World.grownBy.refl w _) _ _
  refine ⟨?_, hb'.frozen 0, ?_, hb0.frozen 1, ⟨_, hb1, by simp [hn'], ?_, fun i hi => ?_⟩, ?_⟩
  · rw [hb'.cell, h1 0 (by omega), setN (by omega)]
  · rw [hb0.cell, setN (by omega), h1 1 (by omega), set0 hn (by omega)]
  · rw [setN (by omega), set0 hn' (by omega)]
  · rw [setN (by omega), setN (by omega)]
    exact h2 i hi
  · exact only_setCell (only_setCell (only_drew (h31.trans h3)) _ _) _ _
set_option maxRecDepth 100000 in
set_option maxHeartbeats 1600000 in
theorem slow_any (g : Nat) (w : World) (h : Blank w g) :
    Calls Try.prog 52 #[.pointer (some ⟨g, 0, none⟩), .func (.func 46) #[.pointer (some ⟨g, 0, none⟩)] #[]] w fun e w' => e = .returned (.tuple #[]) ∧ (Made w' g ∧ w.grownBy w' (some g)) := by
  obtain ⟨cs, hb, hn, c0, c1⟩ := h
  have d0 : w.cell? ⟨g, 0, none⟩ = some (.int .u32 0) := by rw [hb.cell, c0]
  have d1 : w.cell? ⟨g, 1, none⟩ = some (.int .i32 0) := by rw [hb.cell, c1]
  have f1 := hb.frozen 1
  have hl := run_call_load (P := Try.prog) Try.func56 (by kernel_rfl) (by kernel_rfl) (by kernel_rfl) .u32 (by kernel_rfl) (w := w.setCell ⟨g, 1, none⟩ (.int .i32 1)) (a := ⟨g, 0, none⟩) (x := 0) ((World.cell?_setCell_other _ ⟨g, 1, none⟩ ⟨g, 0, none⟩ _ (by simp)).trans d0)
  have hnot : ∀ (x : Bool) (w : World), (Op.unary .not (.bool x)).run Try.prog w = .ok (.bool (!x)) w := fun _ _ => rfl
  have HB := Lib.hid hb
  have HN := Lib.hid hn
  have C0 := Lib.hid c0
  clear hb hn c0 c1
  go_enter_defers Try.func52, Try.ntmps52
  go_wp2_with (first | (go_at_call 57; refine (lock_free ⟨g, 1, none⟩ _ (by go_simp) (by go_simp)).mono ?_; rintro e w' ⟨rfl, rfl⟩) | (go_at_call 51; go_in))
  refine (fill_any g _ _ (HB.out.set_ 1 _) (by simp [HN.out])).mono ?_
  rintro e w2 ⟨rfl, hf⟩
  obtain ⟨e0, z0, e1, z1, hm, hg⟩ := made_of_filled HN.out hf
  rw [C0.out] at e0
  have E0 := Lib.hid e0
  have E1 := Lib.hid e1
  clear e0 e1 hl d0 d1 hf
  go_wp2
  refine leaves_cons (f := 59) (args := #[.pointer (some ⟨g, 0, none⟩), .bool true]) (by simp) (by simp [go_sem]) ?_
  refine (store_deferred ⟨g, 0, none⟩ (.int .u32 0) .returning _ E0.out z0).mono ?_
  rintro e u' w'' ⟨rfl, rfl, rfl⟩
  refine leaves_cons (f := 58) (args := #[.pointer (some ⟨g, 1, none⟩)]) (by simp [settle]) (by simp [go_sem]) ?_
  refine (unlock_deferred ⟨g, 1, none⟩ _ _ E1.out z1).mono ?_
  rintro e u' w'' ⟨rfl, rfl, rfl⟩
  simp [Leaves, settle, results, Try.results52]
  exact ⟨hm, hg⟩
set_option maxRecDepth 100000 in
set_option maxHeartbeats 1600000 in
theorem do_blank (g : Nat) (w : World) (h : Blank w g) :
    Calls Try.prog 45 #[.pointer (some ⟨g, 0, none⟩), .func (.func 46) #[.pointer (some ⟨g, 0, none⟩)] #[]] w fun e w' => e = .returned (.tuple #[]) ∧ (Made w' g ∧ w.grownBy w' (some g)) := by
  obtain ⟨cs, hb, hn, c0, c1⟩ := id h
  have d0 : w.cell? ⟨g, 0, none⟩ = some (.int .u32 0) := by rw [hb.cell, c0]
  have hl := run_call_load (P := Try.prog) Try.func56 (by kernel_rfl) (by kernel_rfl) (by kernel_rfl) .u32 (by kernel_rfl) d0
  have hnot : ∀ (x : Bool) (w : World), (Op.unary .not (.bool x)).run Try.prog w = .ok (.bool (!x)) w := fun _ _ => rfl
  clear hb hn c0 c1
  go_enter Try.func45, Try.ntmps45
  go_wp2_with (first | (go_at_call 52; refine (slow_any g _ h).mono ?_; rintro e w' ⟨rfl, hm⟩) | (go_at_call 51; go_in))
  go_end0
  exact ⟨rfl, hm⟩
theorem do_made (g : Nat) (fv : Value) (w : World) (h : Made w g) :
    Calls Try.prog 45 #[.pointer (some ⟨g, 0, none⟩), fv] w fun e w' => e = .returned (.tuple #[]) ∧ w = w' := by
  obtain ⟨cs, hb, hn, c0, _⟩ := h
  have d0 : w.cell? ⟨g, 0, none⟩ = some (.int .u32 1) := by rw [hb.cell, c0]
  have hl := run_call_load (P := Try.prog) Try.func56 (by kernel_rfl) (by kernel_rfl) (by kernel_rfl) .u32 (by kernel_rfl) d0
  have hnot : ∀ (x : Bool) (w : World), (Op.unary .not (.bool x)).run Try.prog w = .ok (.bool (!x)) w := fun _ _ => rfl
  clear hb hn c0
  go_enter Try.func45, Try.ntmps45
  go_wp2
  go_end0
  exact ⟨rfl, rfl⟩
/-- Whether it was asked before or not. -/
theorem do_any (g : Nat) (w : World) (h : Blank w g ∨ Made w g) :
    Calls Try.prog 45 #[.pointer (some ⟨g, 0, none⟩), .func (.func 46) #[.pointer (some ⟨g, 0, none⟩)] #[]] w fun e w' => e = .returned (.tuple #[]) ∧ (Made w' g ∧ w.grownBy w' (some g)) := by
  rcases h with h | h
  · exact do_blank g w h
  · refine (do_made g _ w h).mono ?_
    rintro e w' ⟨rfl, rfl⟩
    exact ⟨rfl, h, World.grownBy.refl _ _⟩
set_option maxRecDepth 100000 in
theorem tableTake_any (g r b : Nat) (w : World) (h : Made w g) (hr : r < 4294967296) (hb : b < 256) :
    Calls Try.prog 47 #[.pointer (some ⟨g, 0, none⟩), .int .u32 (r : Int), .int .u8 (b : Int)] w fun e w' => e = .returned (.int .u32 ((Crc.take r b : Nat) : Int)) ∧ w = w' := by
  obtain ⟨cs, hbk, hn, c0, hc⟩ := h
  have hx : r % 256 ^^^ b < 256 := Crc.xor8_lt (by omega) hb
  have h8 : bits .xor .u8 ((r : Int) % 256) (b : Int) = ((r % 256 ^^^ b : Nat) : Int) := u8_xor_nat (r % 256) b (by omega) hb
  have hcell : w.cell? ⟨g, 3 + (r % 256 ^^^ b), none⟩ = some (.int .u32 ((Crc.eight (r % 256 ^^^ b) : Nat) : Int)) := by rw [hbk.cell]; exact hc _ hx
  have hfin : bits .xor .u32 ((Crc.eight (r % 256 ^^^ b) : Nat) : Int) ((r : Int) / 256) = ((Crc.take r b : Nat) : Int) := by
    rw [← Crc.take_table r b hb]
    exact u32_xor_nat (Crc.eight (r % 256 ^^^ b)) (r / 256) (Crc.eight_lt (by omega)) (by omega)
  generalize r % 256 ^^^ b = x at *
  have HF := Lib.hid hfin
  clear hbk hn c0 hc hfin
  go_enter Try.func47, Try.ntmps47
  go_wp2
  go_ret
  exact ⟨ret_int HF.out, rfl⟩
theorem not_u32 (s : Nat) (hs : s < 4294967296) : bits .xor .u32 IntKind.u32.max (s : Int) = ((4294967295 - s : Nat) : Int) := by
  have h := u32_xor_nat 4294967295 s (by omega) hs
  rw [Crc.not_xor hs] at h
  exact h
set_option maxRecDepth 100000 in
theorem tableUpdate_any (g s n c B : Nat) (A : Option Addr) (l : List Nat) (w : World) (hT : Blank w g ∨ Made w g) (hs : s < 4294967296) (hb : Bytes w B A n l) (hB : B ≤ g) (hB' : B ≤ w.heap.size) (hn : n ≤ 9223372036854775807) :
    Calls Try.prog 38 #[.pointer (some ⟨g, 0, none⟩), .int .u32 (s : Int), .slice A n c] w fun e w' => e = .returned (.int .u32 ((Crc.upd s l : Nat) : Int)) ∧ (Made w' g ∧ w.grownBy w' (some g)) := by
  have hx : bits .xor .u32 IntKind.u32.max (s : Int) = ((4294967295 - s : Nat) : Int) := not_u32 s hs
  have hu : Crc.upd s l = 4294967295 - Crc.run (4294967295 - s) l := rfl
  have hr0 : 4294967295 - s < 4294967296 := by omega
  generalize 4294967295 - s = r0 at *
  have HU := Lib.hid hu
  clear hu
  go_enter Try.func38, Try.ntmps38
  go_wp2_with fail
  refine (do_any g _ hT).mono ?_
  rintro e w1 ⟨rfl, hm, hg⟩
  have hb1 := hb.grown hg hB' hB
  clear hb hT
  go_wp2_with fail
  go_loop [7, 25] (fun t i => ∃ k : Nat, k ≤ n ∧ i = .int .i64 k ∧ t = .int .u32 ((Crc.run r0 (l.take k) : Nat) : Int)) (fun _ i => n - (intOf i).toNat)
  case atStart => exact ⟨0, by omega, rfl, rfl⟩
  case round =>
    obtain ⟨k, hk, rfl, rfl⟩ := hrel
    clear hx
    have hlr : Crc.run r0 (l.take k) < 4294967296 := Crc.run_lt hr0 (hb1.take_lt k)
    by_cases hlt : k < n
    · obtain ⟨b, off, rfl, hbB, hc⟩ := hb1.2.2 (by omega)
      have hck := hc k hlt
      have h8 := hb1.lt k
      have HS := Lib.hid (run_step hb1 hlt r0)
      generalize l.getD k 0 = x at *
      generalize Crc.run r0 (l.take k) = r at *
      clear hc
      go_wp2_with (go_at_call 47; refine (tableTake_any g _ _ _ hm hlr h8).mono ?_; rintro e w' ⟨rfl, rfl⟩)
      go_round
      case rel => exact ⟨k + 1, by omega, by go_num, by rw [HS.out]⟩
      case measure => simp [intOf]; omega
    · have hfin := not_u32 _ hlr
      rw [run_all hb1 hlt, ← HU.out] at hfin
      have HF := Lib.hid hfin
      have HA := Lib.hid (run_all hb1 hlt r0)
      rw [HA.out] at hlr ⊢
      clear hfin
      go_wp2_with fail
      go_ret
      exact ⟨ret_int HF.out, hm, hg⟩
/-- The cells of a table that is blank. -/
def blankCells : Array Value := ⟨.int .u32 0 :: .int .i32 0 :: .int .u32 0 :: List.replicate 256 (.int .u32 0)⟩
/-- What the zero of a table is, told by what is asked of it alone. -/
theorem blank_ex : ∃ cs : Array Value, (∀ w : World, (zeroValue 75).run Try.prog w = .ok (.agg cs) w) ∧ ∀ w : World, Blank (w.alloc (.cells cs 75)) w.heap.size :=
  ⟨blankCells, fun _ => by kernel_rfl, fun w => ⟨blankCells, Blk.new w _ _, by kernel_rfl, by kernel_rfl, by kernel_rfl⟩⟩
set_option maxRecDepth 100000 in
theorem update_any (s n c B : Nat) (A : Option Addr) (l : List Nat) (w : World) (hs : s < 4294967296) (hb : Bytes w B A n l) (hB : B ≤ w.heap.size) (hn : n ≤ 9223372036854775807) :
    Calls Try.prog 44 #[.int .u32 (s : Int), .slice A n c] w fun e w' => e = .returned (.int .u32 ((Crc.upd s l : Nat) : Int)) ∧ Below w.heap.size w w' := by
  obtain ⟨cs, hz, hnew⟩ := blank_ex
  go_enter Try.func44, Try.ntmps44
  go_wp2_with fail
  refine (tableUpdate_any w.heap.size s n c B A l _ (.inl (hnew w)) hs (hb.alloc hB _) hB (by simp; omega) hn).mono ?_
  rintro e w1 ⟨rfl, hm, hg⟩
  have hbl := below_new hg
  clear hg hm hz hnew
  go_wp2_with fail
  go_ret
  exact ⟨rfl, hbl⟩
end Go.Proofs.Ytnokbnobnhkmgaa
