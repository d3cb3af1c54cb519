/- Layer 7, the program: what a stream keeps, in memory; how it grows. -/
import Derived.Test.YtnokbnobnhkmgaaFrA
import Derived.Test.YtnokbnobnhkmgaaFrV
import Derived.ArgAppend
import Derived.Deep.Upon
import Derived.Deep.AppendLies
namespace Go.Proofs.Ytnokbnobnhkmgaa
open Go.ChangeShapes Go.WideShapes Go.ChangeAt Go.RowKit

/-- Bytes that a stream at block g keeps, in one of the blocks of H: full (then whatever is put behind them moves them), or at the beginning of a block that is all theirs. -/
def Kpt (w : World) (g : Nat) (H : List Nat) (A : Option Addr) (n c : Nat) (K : List Nat) : Prop :=
  n ≤ c ∧ K.length = n ∧ (∀ x ∈ K, x < 256) ∧ (A = none → n = 0 ∧ c = 0) ∧
  ∀ ad, A = some ad → ∃ b off, ad = ⟨b, off, none⟩ ∧ b ∈ H ∧ b ≠ g ∧ (∀ j u, (u8s K)[j]? = some u → w.cell? ⟨b, off + j, none⟩ = some u) ∧ (n = c ∨ (off = 0 ∧ w.ownsRow 0 5 1 (.slice (some ⟨b, 0, none⟩) n c) n (u8s K)))
theorem own_same {w w' : World} {b e s n : Nat} {v : Value} {xs : List Value} (h : w.ownsRow b e s v n xs) (hk : ∀ k, v.ownBlock = some k → w'.heap[k]? = w.heap[k]?) : w'.ownsRow b e s v n xs := by
  refine ⟨h.1, ?_⟩
  rcases h.2 with h1 | ⟨g, cap, cur, rfl, h2, h3, h4⟩
  · exact .inl h1
  · exact .inr ⟨g, cap, cur, rfl, h2, (hk g rfl).trans h3, h4⟩
theorem Kpt.keep {w w' : World} {g : Nat} {H : List Nat} {A : Option Addr} {n c : Nat} {K : List Nat} (h : Kpt w g H A n c K) (hk : ∀ k ∈ H, k ≠ g → w'.heap[k]? = w.heap[k]?) : Kpt w' g H A n c K := by
  obtain ⟨h1, h2, h3, h4, h5⟩ := h
  refine ⟨h1, h2, h3, h4, fun ad had => ?_⟩
  obtain ⟨b, off, e, hb, hg, hc, ho⟩ := h5 ad had
  refine ⟨b, off, e, hb, hg, fun j u hu => (World.cell?_of_block (a := ⟨b, off + j, none⟩) (hk b hb hg)).trans (hc j u hu), ?_⟩
  rcases ho with ho | ⟨ho, hw⟩
  · exact .inl ho
  · refine .inr ⟨ho, own_same hw (fun k e => ?_)⟩
    have : b = k := by simpa [Value.ownBlock] using e
    subst this
    exact hk b hb hg
theorem Kpt.nil (w : World) (g : Nat) (H : List Nat) : Kpt w g H none 0 0 [] := ⟨Nat.le_refl _, rfl, by simp, fun _ => ⟨rfl, rfl⟩, fun ad h => by cases h⟩
theorem Kpt.bytes {w : World} {g : Nat} {H : List Nat} {A : Option Addr} {n c : Nat} {K : List Nat} (h : Kpt w g H A n c K) (hH : ∀ k ∈ H, k < w.heap.size) : Bytes w w.heap.size A n K := by
  obtain ⟨h1, h2, h3, h4, h5⟩ := h
  refine ⟨h2, h3, fun h0 => ?_⟩
  rcases A with _ | ad
  · have := (h4 rfl).1; omega
  · obtain ⟨b, off, rfl, hb, _, hc, _⟩ := h5 ad rfl
    exact ⟨b, off, rfl, hH b hb, fun i hi => hc i _ (u8s_at (by omega))⟩
theorem below_zero {w w' : World} {row : Option Nat} (h : w.grownBy w' row) : Below 0 w w' := ⟨h.os, h.tape, h.output, h.size, fun k hk => absurd hk (by omega)⟩
theorem kept_append {w : World} {g : Nat} {H : List Nat} {A : Option Addr} {n c : Nat} {K : List Nat} (h : Kpt w g H A n c K) (hgH : g ∈ H) (hH : ∀ k ∈ H, k < w.heap.size)
    {A2 : Option Addr} {m c2 B : Nat} {b : List Nat} (hb : Bytes w B A2 m b) (hn : n + m ≤ 100000000) :
    ∃ A' c' w' H', (Builtin.append_ #[24, 24] 24 #[.slice A n c, .slice A2 m c2]).run Try.prog w = .ok (.slice A' (n + m) c') w' ∧
      Kpt w' g H' A' (n + m) c' (K ++ b) ∧ Mv w w' H H' ∧ w'.heap[g]? = w.heap[g]? ∧ g ∈ H' ∧ ∀ k ∈ H', k < w'.heap.size := by
  obtain ⟨i0, hi, hz0, hz1, hz2⟩ := info_parts Try.info5
  have hgw := hH g hgH
  rcases Nat.eq_zero_or_pos m with h0 | h0
  · subst h0
    have hb0 : b = [] := List.eq_nil_of_length_eq_zero hb.1
    subst hb0
    have hs : Src Try.prog i0.size 24 (.slice A2 0 c2) 0 [] w := by
      rcases A2 with _ | ad
      · exact Src.ofNil w Try.underlying24 c2
      · exact Src.ofSlice w Try.underlying24 ad 0 c2 [] (by simp) (fun j u h => by simp at h) (fun u h => by cases h)
    refine ⟨A, c, w, H, run_append_nothing w _ _ _ 5 i0 Try.underlying24 hi A n c h.1 _ hs, ?_, Mv.refl _ _, rfl, hgH, hH⟩
    rw [List.append_nil]
    exact h
  · rcases A2 with _ | ad2
    · have := (Bytes.none_len hb).1; omega
    · have hcells := hb.cells
      have hl2 : (u8s b).length = m * 1 := by rw [u8s_len, hb.1]; omega
      have hbl : ∀ x ∈ K ++ b, x < 256 := fun x hx => (List.mem_append.1 hx).elim (h.2.2.1 x) (hb.2.1 x)
      have hlen : (K ++ b).length = n + m := by rw [List.length_append, h.2.1, hb.1]
      -- what a new block makes of it
      have fin : ∀ (g' cap : Nat) (w' : World), w'.ownsRow 0 5 1 (.slice (some ⟨g', 0, none⟩) (n + m) cap) (n + m) (u8s (K ++ b)) → g' ≠ g → Kpt w' g [g, g'] (some ⟨g', 0, none⟩) (n + m) cap (K ++ b) := fun g' cap w' ho hne => by
        have hcap : n + m ≤ cap := own_cap ho
        refine ⟨hcap, hlen, hbl, (fun h => by cases h), fun ad had => ?_⟩
        injection had with had
        refine ⟨g', 0, had.symm, by simp, hne, fun j u hu => ?_, .inr ⟨rfl, ho⟩⟩
        have := ho.cells (g := g') rfl j u hu
        rwa [add_at] at this
      by_cases hfull : n = c
      · subst hfull
        obtain ⟨v', w', hrun, ho, hg⟩ : ∃ v' w', (Builtin.append_ #[24, 24] 24 #[.slice A n n, .slice (some ad2) m c2]).run Try.prog w = .ok v' w' ∧ w'.ownsRow w.heap.size 5 1 v' (n + m) (u8s K ++ u8s b) ∧ w.grownBy w' none := by
          rcases A with _ | ad
          · obtain ⟨hn0, -⟩ := h.2.2.2.1 rfl
            subst hn0
            have hK : K = [] := List.eq_nil_of_length_eq_zero h.2.1
            subst hK
            obtain ⟨v', w', hr, r1, r2, _⟩ := run_append_own (P := Try.prog) w w.heap.size 24 24 5 i0 (.int .u8 0) 1 1 Try.underlying24 hi hz0 hz1 hz2 rfl (by decide) (.slice none 0 0) 0 [] (own_nil _ _ _ _) ad2 m c2 (u8s b) hl2 hcells (u8s_one _) (by unfold maxLen; omega) (by omega) (Nat.le_refl _)
            exact ⟨v', w', hr, r1, r2⟩
          · obtain ⟨bk, off, rfl, _, _, hc, _⟩ := h.2.2.2.2 ad rfl
            exact run_append_arg_grows (P := Try.prog) w 24 24 5 i0 (.int .u8 0) 1 1 Try.underlying24 hi hz0 hz1 hz2 rfl (by decide) ⟨bk, off, none⟩ n n (u8s K) (by rw [u8s_len, h.2.1]; omega) (fun j u hj => by rw [add_at]; exact hc j u hj) ad2 m c2 (u8s b) hl2 hcells (by omega) (by unfold maxLen; omega) (by omega)
        obtain ⟨g', cap, rfl, hlo, hlt⟩ := ho.form (by omega)
        rw [u8s_append] at ho
        refine ⟨_, cap, w', [g, g'], hrun, fin g' cap w' (own_lower ho (Nat.zero_le _)) (by omega), ⟨below_zero hg, fun k hk _ => hg.block k hk (by simp), fun k hk => ?_⟩, hg.block g hgw (by simp), by simp, fun k hk => ?_⟩
        · simp at hk
          rcases hk with rfl | rfl
          · exact .inl hgH
          · exact .inr hlo
        · simp at hk
          rcases hk with rfl | rfl
          · exact Nat.lt_of_lt_of_le hgw hg.size
          · exact hlt
      · obtain ⟨ad, rfl⟩ : ∃ ad, A = some ad := by
          rcases A with _ | ad
          · have := h.2.2.2.1 rfl; omega
          · exact ⟨ad, rfl⟩
        obtain ⟨bk, off, rfl, hbH, hbg, hc, ho⟩ := h.2.2.2.2 ad rfl
        obtain ⟨rfl, ho2⟩ := ho.resolve_left hfull
        obtain ⟨g', cap, w', hrun, r1, r2, r3, r4⟩ := run_append_lies (P := Try.prog) w 24 24 0 5 i0 (.int .u8 0) 1 1 Try.underlying24 hi hz0 hz1 hz2 rfl (by decide) (.slice (some ⟨bk, 0, none⟩) n c) n (u8s K) ho2 ad2 m c2 (u8s b) hl2 hcells (u8s_one _) h0 (by unfold maxLen; omega) (by omega) (Nat.zero_le _) w.heap.size rfl
        have hob : (Value.slice (some ⟨bk, 0, none⟩) n c).ownBlock = some bk := rfl
        rw [hob] at r2 r3
        have hg' : g' = bk ∨ g' = w.heap.size := by
          rcases r3 with e | e
          · injection e with e; exact .inl e.symm
          · exact .inr e
        rw [u8s_append] at r1
        refine ⟨_, cap, w', [g, g'], hrun, fin g' cap w' r1 (by rcases hg' with e | e <;> omega), ⟨below_zero r2, fun k hk hn => r2.block k hk (fun e => by injection e with e; subst e; exact hn hbH), fun k hk => ?_⟩, r2.block g hgw (fun e => by injection e with e; exact hbg e.symm), by simp, fun k hk => ?_⟩
        · simp at hk
          rcases hk with rfl | rfl
          · exact .inl hgH
          · rcases hg' with rfl | rfl
            · exact .inl hbH
            · exact .inr (Nat.le_refl _)
        · simp at hk
          rcases hk with rfl | rfl
          · exact Nat.lt_of_lt_of_le hgw r2.size
          · exact r4
/-- The stream at block g, in the blocks of H: l is left, and it is dead or not. -/
def Stm (w : World) (H : List Nat) (g : Nat) (l : List Nat) (d : Bool) : Prop :=
  g ∈ H ∧ (∀ k ∈ H, k < w.heap.size) ∧ ∃ (A : Option Addr) (n c t : Nat) (K : List Nat), Blk w g 85 #[.slice A n c, .int .i64 (t : Int), .bool d] ∧ Kpt w g H A n c K ∧ l = K.drop t ∧ t ≤ n ∧ (t = 0 ∨ t < l.length) ∧ (d = true → n = 0)
theorem stm_keep {w w' : World} {H : List Nat} {g : Nat} {l : List Nat} {d : Bool} (h : Stm w H g l d) (hk : ∀ k ∈ H, w'.heap[k]? = w.heap[k]?) : Stm w' H g l d := by
  obtain ⟨h1, h2, A, n, c, t, K, hb, hK, hl, ht, hr, hd⟩ := h
  refine ⟨h1, fun k hk' => ?_, A, n, c, t, K, (hk g h1).trans hb, hK.keep (fun k h _ => hk k h), hl, ht, hr, hd⟩
  have e := hk k hk'
  rcases Nat.lt_or_ge k w'.heap.size with h | h
  · exact h
  · rw [Array.getElem?_eq_none h, Array.getElem?_eq_getElem (h2 k hk')] at e
    cases e
theorem stm_lt {w : World} {H : List Nat} {g : Nat} {l : List Nat} {d : Bool} (h : Stm w H g l d) : ∀ k ∈ H, k < w.heap.size := h.2.1
theorem stm_dead {w : World} {H : List Nat} {g : Nat} {l : List Nat} (h : Stm w H g l true) : l = [] := by
  obtain ⟨h1, h2, A, n, c, t, K, hb, hK, hl, ht, hr, hd⟩ := h
  have h0 := hd rfl
  rw [hl]
  have : K = [] := List.eq_nil_of_length_eq_zero (by rw [hK.2.1, h0])
  rw [this]; simp
end Go.Proofs.Ytnokbnobnhkmgaa
