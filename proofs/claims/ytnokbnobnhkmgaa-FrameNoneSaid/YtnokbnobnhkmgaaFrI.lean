/- Layer 7, the program: what stands one behind the other, handed to a loop's rounds. -/
import Derived.Test.YtnokbnobnhkmgaaRng
import Derived.Test.YtnokbnobnhkmgaaFrB
namespace Go.Proofs.Ytnokbnobnhkmgaa
open Go.ChangeShapes Go.WideShapes Go.ChangeAt Go.RowKit
attribute [local go_sem] Oper.semAt_some

namespace Fr
/-- The place at which the k-th stands. -/
def place (b : List Nat) : Nat → Nat
  | 0 => 0
  | k + 1 => (tkA b (place b k)).2.1
/-- The k-th that stands there. -/
def found (b : List Nat) (k : Nat) : List Nat × Int := ((tkA b (place b k)).1, (tkA b (place b k)).2.2)
def upto (b : List Nat) (k : Nat) : List (List Nat × Int) := (List.range k).map (found b)
def lastE (b : List Nat) : Nat → Int
  | 0 => 0
  | k + 1 => (found b k).2
/-- k were told of all that stands in b. -/
def Seen (b : List Nat) (k : Nat) : Prop := (lastE b k ≠ 71 ∧ from_ b 0 = (upto b k ++ (from_ b (place b k)).1, (from_ b (place b k)).2)) ∨ (lastE b k = 71 ∧ from_ b 0 = (upto b k, place b k))
theorem upto_len (b : List Nat) (k : Nat) : (upto b k).length = k := by simp [upto]
theorem upto_succ (b : List Nat) (k : Nat) : upto b (k + 1) = upto b k ++ [found b k] := by simp [upto, List.range_succ]
theorem place_le (b : List Nat) (k : Nat) : place b k ≤ b.length := by
  induction k with
  | zero => exact Nat.zero_le _
  | succ k ih =>
    show (tkA b (place b k)).2.1 ≤ b.length
    rcases tkA_cases b (place b k) with h | h | ⟨_, _, h, _⟩
    · rw [h]; exact ih
    · rw [h]; exact ih
    · exact h
theorem seen_start (b : List Nat) : Seen b 0 := .inl ⟨by show (0 : Int) ≠ 71; decide, by simp [upto, place]⟩
theorem seen_stop {b : List Nat} {k : Nat} (h : Seen b k) (hs : lastE b k = 71 ∨ (found b k).2 = 70) : from_ b 0 = (upto b k, place b k) := by
  rcases h with ⟨h1, h2⟩ | ⟨h1, h2⟩
  · rcases hs with hs | hs
    · exact absurd hs h1
    · rw [h2, from_more hs]; simp
  · exact h2
theorem seen_step {b : List Nat} {k : Nat} (h : Seen b k) (h1 : lastE b k ≠ 71) (h70 : (found b k).2 ≠ 70) : Seen b (k + 1) ∧ k < (from_ b 0).1.length := by
  rcases h with ⟨_, h2⟩ | ⟨h3, _⟩
  · by_cases h71 : (found b k).2 = 71
    · have e := from_long (b := b) (a := place b k) h71
      have e1 : tkA b (place b k) = ([], place b k, 71) := by
        rcases tkA_cases b (place b k) with h | h | ⟨h, _⟩
        · exact absurd (by unfold found; rw [h]) h70
        · exact h
        · have h71' : (tkA b (place b k)).2.2 = 71 := h71
          rcases h with ⟨h, _⟩ | h
          · rw [h71'] at h; exact absurd h (by decide)
          · rw [h71'] at h; exact absurd h (by decide)
      have e2 : found b k = ([], 71) := by unfold found; rw [e1]
      have e3 : place b (k + 1) = place b k := by show (tkA b (place b k)).2.1 = _; rw [e1]
      rw [e] at h2
      refine ⟨.inr ⟨h71, ?_⟩, ?_⟩
      · rw [h2, upto_succ, e2, e3]
      · rw [h2]; simp [upto_len]
    · have e := from_step (b := b) (a := place b k) h70 h71
      rw [e] at h2
      refine ⟨.inl ⟨h71, ?_⟩, ?_⟩
      · rw [h2, upto_succ]
        show (upto b k ++ found b k :: (from_ b (place b (k + 1))).1, (from_ b (place b (k + 1))).2) = _
        simp
      · rw [h2]; simp [upto_len]
  · exact absurd h3 h1
theorem seen_le {b : List Nat} {k : Nat} (h : Seen b k) : k ≤ (from_ b 0).1.length := by
  rcases h with ⟨_, h⟩ | ⟨_, h⟩
  · rw [h]; simp [upto_len]
  · rw [h]; simp [upto_len]
end Fr
theorem Bytes.keptAt {w w' : World} {B n : Nat} {A : Option Addr} {l : List Nat} (h : Bytes w B A n l) (hk : ∀ r, r < B → (∃ off p, A = some ⟨r, off, p⟩) → w'.heap[r]? = w.heap[r]?) : Bytes w' B A n l :=
  ⟨h.1, h.2.1, fun hn => by
    obtain ⟨b, off, e, hb, hc⟩ := h.2.2 hn
    exact ⟨b, off, e, hb, fun i hi => (World.cell?_of_block (a := ⟨b, off + i, none⟩) (hk b hb ⟨off, none, e⟩)).trans (hc i hi)⟩⟩
/-- The blocks that the iterator reads. -/
def Reads (B Bx : Nat) (A : Option Addr) (r : Nat) : Prop := r = Bx ∨ (r < B ∧ ∃ off p, A = some ⟨r, off, p⟩)
abbrev encF (b : List Nat) (k : Nat) (x : Option Addr × Nat) : Array Value := #[.agg #[.slice x.1 (Fr.found b k).1.length x.2, .int .i64 (Fr.found b k).2], .int .i64 (Fr.place b (k + 1) : Int)]
abbrev ReadyF (b : List Nat) (T : Nat) (k : Nat) (x : Option Addr × Nat) (U : World) : Prop := U.ownsRow (T + 3) 5 1 (.slice x.1 (Fr.found b k).1.length x.2) (Fr.found b k).1.length (u8s (Fr.found b k).1)
set_option maxRecDepth 100000 in
set_option maxHeartbeats 4000000 in
theorem fstanding_gives (n c B Bx m : Nat) (A : Option Addr) (b : List Nat) (w : World) (hb : Bytes w B A n b) (hB : B ≤ w.heap.size) (hn : n ≤ 1000000) (hc : n ≤ c) (hx : Blk w Bx 24 #[.slice A n c]) (hm : 1 ≤ m) :
    Rng.Gives Try.prog m 42 #[.pointer (some ⟨Bx, 0, none⟩)] (encF b) w.heap.size (Reads B Bx A) (ReadyF b w.heap.size) (Fr.from_ b 0).1.length w := by
  intro l J Jx V hVs hVb hJ hY h0
  obtain ⟨cs, hz, hnew⟩ := blank_ex
  have hT0 : Tab (V.alloc (.cells cs 75)) (w.heap.size + 2) := by have := hnew V; rw [hVs] at this; exact .inl this
  have hbx := hx.lt
  have h1 : J 0 (V.alloc (.cells cs 75)) := hJ 0 _ _ h0 (World.grownBy_alloc V _ _)
  have hb1 : Below w.heap.size w (V.alloc (.cells cs 75)) := hVb.alloc (by omega) _
  have hlen := hb.1
  have H0 := Lib.hid (And.intro h1 (And.intro hT0 (And.intro (hx.below hb1 hbx) (hb.below hb1 hB))))
  have HJ := Lib.hid hJ
  have HY := Lib.hid hY
  clear h1 hT0 hb1 hJ hY h0 hnew hb hx
  refine callsIn_of_wp Try.func42 rfl trivial ?_ rfl
  simp only [Try.ntmps42, List.size_toArray, List.length_cons, List.length_nil, Nat.reduceAdd, Nat.reduceSub, Array.replicate_succ, Array.replicate_zero, List.push_toArray, List.append_toArray, List.nil_append, List.cons_append]
  gi_wp2
  obtain ⟨V0, hV0⟩ : ∃ W, V.alloc (.cells cs 75) = W := ⟨_, rfl⟩
  rw [hV0] at H0 ⊢
  clear hV0 hz hVs hVb
  gi_loopw [4, 5] (fun p e wr => ∃ k : Nat, p = .int .i64 (Fr.place b k : Int) ∧ e = .int .i64 (Fr.lastE b k) ∧ Fr.Seen b k ∧ J k wr ∧ Tab wr (w.heap.size + 2) ∧ Blk wr Bx 24 #[.slice A n c] ∧ Bytes wr B A n b)
    (fun p e _ => 2 * (n - (intOf p).toNat) + (if intOf e = 71 then 0 else 1))
  case atStart => exact ⟨0, rfl, rfl, Fr.seen_start b, H0.out.1, H0.out.2.1, H0.out.2.2.1, H0.out.2.2.2⟩
  case round =>
    obtain ⟨k, rfl, rfl, hs, hj, ht, hbk, hby⟩ := hrel
    have hp := Fr.place_le b k
    have hstop := fun h => Fr.seen_stop hs h
    have hstep := fun h h' => Fr.seen_step hs h h'
    obtain ⟨e0, he0⟩ : ∃ e, Fr.lastE b k = e := ⟨_, rfl⟩
    rw [he0] at hstop hstep ⊢
    by_cases h71 : e0 = 71
    · subst h71
      have HE := Lib.hid (hstop (.inl rfl))
      have HJ0 := Lib.hid hj
      clear hs hstop hstep hj ht hbk hby he0
      gi_wp2
      go_end0
      refine ⟨⟨_, rfl⟩, .inl ?_⟩
      rw [HE.out, Fr.upto_len]
      exact HJ0.out
    · obtain ⟨a, ha⟩ : ∃ a, Fr.place b k = a := ⟨_, rfl⟩
      obtain ⟨body, nx, er, htk⟩ : ∃ body nx er, Fr.tkA b a = (body, nx, er) := ⟨_, _, _, rfl⟩
      have hf : Fr.found b k = (body, er) := by unfold Fr.found; rw [ha, htk]
      have hp1 : Fr.place b (k + 1) = nx := by show (Fr.tkA b (Fr.place b k)).2.1 = nx; rw [ha, htk]
      have hcs := Fr.tkA_cases b a
      rw [htk] at hcs
      rw [ha] at hp ⊢
      have htake := ftake7_any (w.heap.size + 2) n c B A b (a : Int) wr ht hby (by omega) hn hc (by omega)
      rw [Fr.tk_nat, htk] at htake
      have HTK := Lib.hid htake
      have HK := Lib.hid (And.intro hs (And.intro hj (And.intro hbk (And.intro hby (And.intro hstop (And.intro hstep (And.intro hf (And.intro hp1 (And.intro hcs (And.intro he0 ha))))))))))
      have hcell := hbk.cell 0
      have htlt := ht.lt
      have z1 : (e0 != 71) = true := by rw [bne_iff_ne]; exact h71
      have z2 : (e0 == 71) = false := by rw [beq_eq_false_iff_ne]; exact h71
      simp only [List.getElem?_toArray, List.getElem?_cons_zero] at hcell
      clear hs hj ht hbk hby hstop hstep hf hp1 hcs he0 ha htk htake
      by_cases h70 : er = 70
      · subst h70
        gi_wp2_with (refine ⟨trivial, ?_⟩; gi_at_call 34; refine (callsIn_wide.2 HTK.out).mono ?_; rintro e w1 ⟨A1, c1, rfl, ho1, hT1, hg1⟩)
        refine ⟨fun _ h => (by cases h), ?_⟩
        gi_wp2
        refine bodyPost_ret (results_none rfl _ _ _) rfl ?_
        refine ⟨⟨_, rfl⟩, .inl ?_⟩
        rw [HK.out.2.2.2.2.1 (.inr (by rw [HK.out.2.2.2.2.2.2.1])), Fr.upto_len]
        exact HJ.out _ _ _ HK.out.2.1 hg1
      · have z3 : (er != 70) = true := by rw [bne_iff_ne]; exact h70
        have z4 : (er == 70) = false := by rw [beq_eq_false_iff_ne]; exact h70
        have HN := Lib.hid (HK.out.2.2.2.2.2.1 h71 (by rw [HK.out.2.2.2.2.2.2.1]; exact h70))
        have hyield : Hid (∀ (A1 : Option Addr) (c1 : Nat) (w1 : World), w1.ownsRow wr.heap.size 5 1 (.slice A1 body.length c1) body.length (u8s body) → Tab w1 (w.heap.size + 2) → wr.grownBy w1 (some (w.heap.size + 2)) →
            YieldAt Fence.wide (m - 1) Try.prog l #[.agg #[.slice A1 body.length c1, .int .i64 er], .int .i64 (nx : Int)] w1 fun e U' => e = .returned (.bool true) ∧ J (k + 1) U' ∧ Rng.Kept w.heap.size (Reads B Bx A) w1 U' ∨ e = .returned (.bool false) ∧ Jx k U') := Lib.hid fun A1 c1 w1 ho1 hT1 hg1 => by
          have h := HY.out k (A1, c1) w1 HN.out.2 (HJ.out _ _ _ HK.out.2.1 hg1) (by unfold ReadyF; rw [HK.out.2.2.2.2.2.2.1]; exact own_lower ho1 (by omega)) hT1.lt
          unfold encF at h
          rw [HK.out.2.2.2.2.2.2.1, HK.out.2.2.2.2.2.2.2.1] at h
          exact h
        gi_wp2_with (refine ⟨trivial, ?_⟩; gi_at_call 34; refine (callsIn_wide.2 HTK.out).mono ?_; rintro e w1 ⟨A1, c1, rfl, ho1, hT1, hg1⟩; obtain ⟨fn, tmps, assign, bd, hy, hR⟩ := hyield.out A1 c1 w1 ho1 hT1 hg1)
        have HR := Lib.hid hR
        clear hR hy
        refine HR.out.mono ?_
        rintro e W3 (⟨rfl, hJ3, hk3⟩ | ⟨rfl, hJx⟩)
        · have hk2 := HK.out.2.2.1
          have hby3 := (HK.out.2.2.2.1.grown hg1 (by omega) (by omega)).keptAt (w' := W3) (fun r hr hA => hk3.2 r (.inr (.inr ⟨hr, hA⟩)))
          have hbk3 : Blk W3 Bx 24 #[.slice A n c] := (hk3.2 Bx (.inr (.inl rfl))).trans ((hg1.block Bx hk2.lt (fun e => by injection e with e; omega)).trans hk2)
          have hT3 : Tab W3 (w.heap.size + 2) := hT1.keep (hk3.2 _ (.inl ⟨by omega, by omega⟩))
          have H3 := Lib.hid (And.intro hJ3 (And.intro hT3 (And.intro hbk3 hby3)))
          clear hJ3 hk3 hby3 hbk3 hT3 hk2 ho1 hg1 hT1
          gi_wp2
          go_roundw
          case rel =>
            refine ⟨k + 1, ?_, ?_, HN.out.1, H3.out.1, H3.out.2.1, H3.out.2.2.1, H3.out.2.2.2⟩
            · rw [HK.out.2.2.2.2.2.2.2.1]
            · show _ = Value.int .i64 (Fr.found b k).2
              rw [HK.out.2.2.2.2.2.2.1]
          case measure =>
            have hcs := HK.out.2.2.2.2.2.2.2.2.1
            rw [if_neg (show ¬ intOf (Value.int .i64 e0) = 71 from h71)]
            show 2 * (n - ((nx : Int)).toNat) + (if er = 71 then 0 else 1) < 2 * (n - ((a : Int)).toNat) + 1
            rcases hcs with h | h | ⟨_, h, h2, _⟩
            · exact absurd (congrArg (fun x => x.2.2) h) h70
            · have e1 : nx = a := congrArg (fun x => x.2.1) h
              have e2 : er = 71 := congrArg (fun x => x.2.2) h
              rw [if_pos e2, e1]; omega
            · have h' : a + 8 ≤ nx := h
              have h2' : nx ≤ b.length := h2
              split <;> omega
        · have HX := Lib.hid hJx
          clear hJx ho1 hg1 hT1
          gi_wp2
          refine bodyPost_ret (results_none rfl _ _ _) rfl ?_
          exact ⟨⟨_, rfl⟩, .inr ⟨k, HN.out.2, HX.out⟩⟩
end Go.Proofs.Ytnokbnobnhkmgaa
