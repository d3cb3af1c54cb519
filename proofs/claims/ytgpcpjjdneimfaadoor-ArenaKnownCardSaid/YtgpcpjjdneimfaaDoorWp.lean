/- A number waits that did not. -/
import Derived.Test.YtgpcpjjdneimfaaDoorWm
import Derived.Lib.Hide
import Derived.Carry
import Derived.Deep.DeepCutAuto
namespace Go.Proofs.YtgpcpjjdneimfaaDoor
open Go.ChangeShapes Go.WideShapes Go.ChangeAt Go.RowKit Go.MapKept
open Go.ChangeMaps (setBlock)

theorem Words.ne {w : World} {mb g : Nat} {f : Nat → Nat → Nat} {t : TypeId} {cs : Array Value} (h : Words w (some mb) f) (hb : Blk w g t cs) : mb ≠ g := by
  rintro rfl
  obtain ⟨es, clock, g', h1, _⟩ := h
  unfold Blk at hb
  rw [hb] at h1
  cases h1
theorem Words.lt {w : World} {mb : Nat} {f : Nat → Nat → Nat} (h : Words w (some mb) f) : mb < w.heap.size := by
  obtain ⟨es, clock, g', h1, _⟩ := h
  rcases Nat.lt_or_ge mb w.heap.size with h2 | h2
  · exact h2
  · rw [Array.getElem?_eq_none h2] at h1; cases h1
theorem Words.keep {w w' : World} {mv : Option Nat} {f : Nat → Nat → Nat} (h : Words w mv f) (hk : ∀ mb, mv = some mb → w'.heap[mb]? = w.heap[mb]?) : Words w' mv f := by
  cases mv with
  | none => exact h
  | some mb =>
    obtain ⟨es, clock, g', h1, h2⟩ := h
    exact ⟨es, clock, g', (hk mb rfl).trans h1, h2⟩
/-- A word's value is stored. -/
theorem Words.store {w : World} {mb : Nat} {f : Nat → Nat → Nat} (h : Words w (some mb) f) (l a v : Nat) (x y z : Int) (hx : x = l) (hy : y = a) (hz : z = v) (hl : l < 9223372036854775808) (ha : a < 9223372036854775808) :
    ∃ o : Obj, (∀ W : World, W.heap[mb]? = w.heap[mb]? → (Instr.mapUpdate 69 (.map (some mb)) (.agg #[.int .i64 x, .int .i64 y]) (.int .u64 z)).run Tryd.prog W = .ok () (setBlock W mb o)) ∧ ∀ W : World, W.heap[mb]? = some o → Words W (some mb) (Wt.upd f l a v) := by
  subst hx hy hz
  obtain ⟨es, clock, g, hb, he, hg⟩ := h
  obtain ⟨k, hk⟩ := wkey_reads l a hl ha
  obtain ⟨es', clock', he', _, hrun⟩ := he.store word_keyed Tryd.underlying69 hk (.int .u64 (v : Int))
  refine ⟨.map es' clock', fun W hW => hrun mb W (hW.trans hb), fun W hW => ⟨es', clock', _, hW, he', fun l' a' => ?_⟩⟩
  by_cases e : l' = l ∧ a' = a
  · obtain ⟨rfl, rfl⟩ := e
    rw [updE_same, Wt.upd_same]
    rfl
  · rw [updE_other _ _ _ (fun hh => e (wkey_inj hh)), Wt.upd_other _ _ _ _ e]
    exact hg l' a'
theorem or_digit (v k : Nat) (hv : v < 18446744073709551616) (hk : k < 64) : bits .or .u64 (v : Int) (IntKind.u64.wrap (2 ^ k)) = ((v ||| 2 ^ k : Nat) : Int) := by
  have h1 : 2 ^ k < 2 ^ 64 := Nat.pow_lt_pow_right (by decide) hk
  have e : IntKind.u64.wrap (2 ^ k) = ((2 ^ k : Nat) : Int) := by
    rw [IntKind.wrap_u64]
    have : ((2 : Int) ^ k) = ((2 ^ k : Nat) : Int) := by rw [Int.natCast_pow]; rfl
    rw [this]
    exact Int.emod_eq_of_lt (Int.natCast_nonneg _) (Int.ofNat_lt.2 (show 2 ^ k < 18446744073709551616 from h1))
  rw [e]
  exact u64_or_nat v (2 ^ k) hv h1
/-- A new map. -/
theorem words_new (w : World) : Words (w.alloc (.map #[] 0)) (some w.heap.size) (fun _ _ => 0) :=
  ⟨#[], 0, _, heap_alloc_new w _, Ent.empty _ _, fun _ _ => rfl⟩
theorem words_none {w : World} {f : Nat → Nat → Nat} (h : Words w none f) : f = fun _ _ => 0 := by
  funext l a
  exact h l a
theorem run_eql_nomap {P : Program} (w : World) (t k e : TypeId) (a : Option Nat) (h : P.underlying t = some (.map k e)) : (binOp .eql t (.map a) (.map none)).run P w = .ok (.bool a.isNone) w := by
  have h0 : ∀ d, (Op.equalIn (d + 1) t (.map a) (.map none)).run P w = .ok a.isNone w := fun d => by
    cases a <;> simp [Op.equalIn, run_underlying h]
  have h1 : (Op.equal t (.map a) (.map none)).run P w = .ok a.isNone w := h0 9999
  simp [binOp, h1]
def PutPost (w : World) (g mb n : Nat) (sl : Value) (c : Int) (S : Nat → Prop) (w' : World) : Prop :=
  ∃ f', Blk w' g 73 #[sl, .map (some mb), .int .i64 (c + 1)] ∧ Words w' (some mb) f' ∧ Wt.Rep (Wt.with_ S n) f' ∧ Turns (fun b => b = g ∨ b = mb) w w'
set_option maxRecDepth 100000 in
theorem put_some (w : World) (g n mb : Nat) (sl : Value) (c : Int) (S : Nat → Prop) (f : Nat → Nat → Nat) (hb : Blk w g 73 #[sl, .map (some mb), .int .i64 c]) (hw : Words w (some mb) f) (hr : Wt.Rep S f) (hn : n < 64 ^ 6) (hc : 0 ≤ c) (hc2 : c < 4611686018427387904) :
    Calls Tryd.prog 42 #[.pointer (some ⟨g, 1, none⟩), .int .i64 (n : Int)] w fun e w' => e = .returned (.tuple #[]) ∧ PutPost w g mb n sl c S w' := by
  have c1 := hb.cell 1
  have c2 := hb.cell 2
  have f2 := hb.frozen 2
  simp only [List.getElem?_toArray, List.getElem?_cons_zero, List.getElem?_cons_succ] at c1 c2
  have hne := hw.ne hb
  have q0 := fun W : World => run_eql_nomap (P := Tryd.prog) W 69 _ _ (some mb) Tryd.underlying69
  have H := Lib.hid (And.intro hb (And.intro hw (And.intro hr hne)))
  clear hb hw hr hne
  go_enter Tryd.func42, Tryd.ntmps42
  go_wp2_with fail
  rename World => w
  go_loopw [1, 23] (fun v i wr => ∃ (l m : Nat) (f1 : Nat → Nat → Nat), l ≤ 6 ∧ i = .int .i64 (l : Int) ∧ v = .int .i64 (m : Int) ∧ m = n / 64 ^ l ∧ Blk wr g 73 #[sl, .map (some mb), .int .i64 (c + 1)] ∧ Words wr (some mb) f1 ∧ Wt.Mid S (Wt.with_ S n) l f1 ∧ Turns (fun b => b = g ∨ b = mb) w wr) (fun _ i _ => 6 - (intOf i).toNat)
  case atStart =>
    refine ⟨0, n, f, by omega, rfl, rfl, by simp, H.out.1.set_ 2 _, ?_, Wt.Mid.start H.out.2.2.1, (Turns.refl _ _).setCell 2 _ (fun _ => .inl rfl)⟩
    exact H.out.2.1.keep fun mb' e => by
      cases e
      exact Below.heap_setCell w _ _ mb H.out.2.2.2
  case round =>
    obtain ⟨l, m, f1, hl6, rfl, rfl, hmm, hb1, hw1, hm, ht⟩ := hrel
    have hmb : m < 9223372036854775808 := by
      have := Nat.div_le_self n (64 ^ l)
      have : (64 : Nat) ^ 6 = 68719476736 := by decide
      omega
    by_cases hlt : l < 6
    · have i1 : (l : Int) < 6 := by omega
      have e1 := hb1.cell 1
      simp only [List.getElem?_toArray, List.getElem?_cons_zero, List.getElem?_cons_succ] at e1
      have HK := Lib.hid (And.intro hb1 (And.intro hw1 (And.intro hm (And.intro ht hmm))))
      clear hb1 hw1 hm ht hmm
      go_upto_region 7 with fail
      obtain ⟨W, hW⟩ : ∃ W, (wr.alloc (.cells #[.int .i64 (l : Int), .int .i64 ((m : Int) / 64)] 107)) = W := ⟨_, rfl⟩
      obtain ⟨a, ha⟩ : ∃ a, wr.heap.size = a := ⟨_, rfl⟩
      have hbelow : Below wr.heap.size wr W := hW ▸ (Below.refl _ _).alloc (Nat.le_refl _) _
      have hbW : Blk W g 73 #[sl, .map (some mb), .int .i64 (c + 1)] := HK.out.1.below hbelow HK.out.1.lt
      have hwW : Words W (some mb) f1 := HK.out.2.1.keep fun mb' e => hbelow.block mb' (by cases e; exact HK.out.2.1.lt)
      have hnW : Blk W a 107 #[.int .i64 (l : Int), .int .i64 ((m : Int) / 64)] := by
        rw [← hW, ← ha]
        exact Blk.new _ _ _
      have hl := hwW.looki (W := W.drew) (fun _ _ => rfl) l (m / 64) (l : Int) ((m : Int) / 64) rfl (by omega) (by omega) (by omega)
      have d1 := hbW.cell 1
      have d2 := hnW.cell 0
      have d3 := hnW.cell 1
      simp only [List.getElem?_toArray, List.getElem?_cons_zero, List.getElem?_cons_succ] at d1 d2 d3
      have HW := Lib.hid (And.intro hW (And.intro ha (And.intro hbelow (And.intro hbW (And.intro hwW hnW)))))
      rw [ha, hW]
      obtain ⟨v, hv⟩ : ∃ v, f1 l (m / 64) = v := ⟨_, rfl⟩
      rw [hv] at hl
      clear hbelow hbW hwW hnW e1 hW ha
      have HV := Lib.hid hv
      clear hv
      go_region
      obtain ⟨V, hV⟩ : ∃ V, W.drew = V := ⟨_, rfl⟩
      rw [hV]
      clear hl d1 d2 d3
      have hwV : Words V (some mb) f1 := hV ▸ HW.out.2.2.2.2.1
      have hnV : Blk V a 107 #[.int .i64 (l : Int), .int .i64 ((m : Int) / 64)] := hV ▸ HW.out.2.2.2.2.2
      have hbV : Blk V g 73 #[sl, .map (some mb), .int .i64 (c + 1)] := hV ▸ HW.out.2.2.2.1
      have d1 := hbV.cell 1
      have d2 := hnV.cell 0
      have d3 := hnV.cell 1
      simp only [List.getElem?_toArray, List.getElem?_cons_zero, List.getElem?_cons_succ] at d1 d2 d3
      have h0 := HK.out.2.2.1 l hlt (m / 64)
      simp only [Nat.lt_irrefl, if_false] at h0
      have hvl : v < 18446744073709551616 := HV.out ▸ h0.1
      obtain ⟨o, hst, hwo⟩ := hwV.store l (m / 64) (v ||| 2 ^ (m % 64)) (l : Int) ((m : Int) / 64) _ rfl (by omega) (or_digit v (m % 64) hvl (Nat.mod_lt _ (by decide))) (by omega) (by omega)
      have hs := hst V.drew rfl
      have HV2 := Lib.hid (And.intro hV (And.intro hwV (And.intro hnV (And.intro hbV hwo))))
      clear hV hwV hnV hbV hst hwo h0 hvl
      go_upto_region 8 with fail
      go_region
      obtain ⟨U, hU⟩ : ∃ U, setBlock V.drew mb o = U := ⟨_, rfl⟩
      rw [hU]
      have FIN : Hid (Blk U g 73 #[sl, .map (some mb), .int .i64 (c + 1)] ∧ Words U (some mb) (Wt.upd f1 l (m / 64) (v ||| 2 ^ (m % 64))) ∧ Wt.Mid S (Wt.with_ S n) (l + 1) (Wt.upd f1 l (m / 64) (v ||| 2 ^ (m % 64))) ∧ Turns (fun b => b = g ∨ b = mb) w U) := by
        refine Lib.hid ⟨?_, ?_, ?_, ?_⟩
        · rw [← hU]
          exact (setBlock_heap_other H.out.2.2.2.symm).trans HV2.out.2.2.2.1
        · refine HV2.out.2.2.2.2 U ?_
          rw [← hU]
          exact setBlock_heap_same (HV2.out.2.1.lt)
        · have h1 := HK.out.2.2.1.put (n := n) hlt
          rw [← HK.out.2.2.2.2, HV.out] at h1
          exact h1
        · have h1 : Turns (fun b => b = g ∨ b = mb) w V := HV2.out.1 ▸ (HK.out.2.2.2.1.trans (Turns.of_below HW.out.2.2.1)).drew
          rw [← hU]
          exact h1.drew.setBlock o (fun _ => .inr rfl)
      clear hU hs d1 d2 d3
      by_cases hz : v = 0
      · have z1 : ((v : Int) == 0) = true := by simp [hz]
        clear hz
        go_wp2_with fail
        refine ⟨⟨l + 1, m / 64, _, by omega, by go_num, by go_num, by rw [HK.out.2.2.2.2, Wt.div_up], FIN.out.1, FIN.out.2.1, FIN.out.2.2.1, FIN.out.2.2.2⟩, ?_⟩
        simp [intOf]
        omega
      · have z1 : ((v : Int) == 0) = false := by simp [hz]
        go_wp2_with fail
        refine bodyPost_ret (results_none rfl _ _ _) rfl ⟨rfl, _, FIN.out.1, FIN.out.2.1, ?_, FIN.out.2.2.2⟩
        have h1 := Wt.put_stop HK.out.2.2.1 hlt (fun x hx => hx.elim (H.out.2.2.1.few x) (fun e => e ▸ hn)) (by rw [← HK.out.2.2.2.2, HV.out]; exact hz)
        rw [← HK.out.2.2.2.2, HV.out] at h1
        exact h1
    · obtain rfl : l = 6 := by omega
      have i1 : ¬ ((6 : Nat) : Int) < 6 := by omega
      have HF := Lib.hid (And.intro hb1 (And.intro hw1 (And.intro hm ht)))
      clear hb1 hw1 hm ht hlt
      go_wp2_with fail
      refine bodyPost_end (results_none rfl _ _ _) rfl ⟨rfl, f1, HF.out.1, HF.out.2.1, HF.out.2.2.1.last (fun x hx => hx.elim (H.out.2.2.1.few x) (fun e => e ▸ hn)), HF.out.2.2.2⟩
set_option maxRecDepth 100000 in
theorem put_none (w : World) (g n : Nat) (sl : Value) (c : Int) (S : Nat → Prop) (f : Nat → Nat → Nat) (hb : Blk w g 73 #[sl, .map none, .int .i64 c]) (hw : Words w none f) (hr : Wt.Rep S f) (hn : n < 64 ^ 6) (hc : 0 ≤ c) (hc2 : c < 4611686018427387904) :
    Calls Tryd.prog 42 #[.pointer (some ⟨g, 1, none⟩), .int .i64 (n : Int)] w fun e w' => e = .returned (.tuple #[]) ∧ PutPost w g w.heap.size n sl c S w' := by
  obtain ⟨mb, hmb⟩ : ∃ mb, w.heap.size = mb := ⟨_, rfl⟩
  have hf := words_none hw
  subst hf
  have hne : g < w.heap.size := hb.lt
  have hA : Below w.heap.size w (w.alloc (.map #[] 0)) := (Below.refl _ _).alloc (Nat.le_refl _) _
  have hbA : Blk (w.alloc (.map #[] 0)) g 73 #[sl, .map none, .int .i64 c] := hb.below hA hne
  have hwA := words_new w
  have c1 := hb.cell 1
  have a1 := hbA.cell 1
  have f1 := hbA.frozen 1
  simp only [List.getElem?_toArray, List.getElem?_cons_zero, List.getElem?_cons_succ] at c1 a1
  have hmm := @run_makeMap Tryd.prog
  have q0 := fun W : World => run_eql_nomap (P := Tryd.prog) W 69 _ _ none Tryd.underlying69
  rw [hmb] at hwA
  rw [hmb]
  have H := Lib.hid (And.intro hbA (And.intro hwA (And.intro hr (And.intro hne (And.intro hA hmb)))))
  clear hb hw hr hne hbA hwA hA hmb
  go_enter Tryd.func42, Tryd.ntmps42
  go_upto_region 2 with fail
  have hmb := H.out.2.2.2.2.2
  obtain ⟨W1, hW1⟩ : ∃ W1, (w.alloc (.map #[] 0)).setCell ⟨g, 1, none⟩ (.map (some w.heap.size)) = W1 := ⟨_, rfl⟩
  rw [hW1]
  rw [hmb] at hW1
  rw [hmb]
  have hb1 : Blk W1 g 73 #[sl, .map (some mb), .int .i64 c] := hW1 ▸ H.out.1.set_ 1 _
  have hw1 : Words W1 (some mb) (fun _ _ => 0) := H.out.2.1.keep fun mb' e => by
    cases e
    rw [← hW1]
    exact Below.heap_setCell _ _ _ mb (by have := H.out.2.2.2.1; have := H.out.2.2.2.2.2; show mb ≠ g; omega)
  have ht1 : Turns (fun b => b = g ∨ b = mb) w W1 := hW1 ▸ (Turns.of_below H.out.2.2.2.2.1).setCell 1 _ (fun _ => .inl rfl)
  have c2 := hb1.cell 2
  have c1 := hb1.cell 1
  have f2 := hb1.frozen 2
  simp only [List.getElem?_toArray, List.getElem?_cons_zero, List.getElem?_cons_succ] at c1 c2
  have hne : mb ≠ g := by have := H.out.2.2.2.1; have := H.out.2.2.2.2.2; omega
  have H2 := H
  clear H
  have H := Lib.hid (And.intro hb1 (And.intro hw1 (And.intro H2.out.2.2.1 (And.intro hne ht1))))
  clear hb1 hw1 hW1 hmb hne ht1 a1 f1 hmm q0
  go_wp2_with fail
  go_loopw [1, 23] (fun v i wr => ∃ (l m : Nat) (f1 : Nat → Nat → Nat), l ≤ 6 ∧ i = .int .i64 (l : Int) ∧ v = .int .i64 (m : Int) ∧ m = n / 64 ^ l ∧ Blk wr g 73 #[sl, .map (some mb), .int .i64 (c + 1)] ∧ Words wr (some mb) f1 ∧ Wt.Mid S (Wt.with_ S n) l f1 ∧ Turns (fun b => b = g ∨ b = mb) w wr) (fun _ i _ => 6 - (intOf i).toNat)
  case atStart =>
    refine ⟨0, n, _, by omega, rfl, rfl, by simp, H.out.1.set_ 2 _, ?_, Wt.Mid.start H.out.2.2.1, H.out.2.2.2.2.setCell 2 _ (fun _ => .inl rfl)⟩
    exact H.out.2.1.keep fun mb' e => by
      cases e
      exact Below.heap_setCell W1 _ _ mb H.out.2.2.2.1
  case round =>
    obtain ⟨l, m, f1, hl6, rfl, rfl, hmm, hb1, hw1, hm, ht⟩ := hrel
    have hmb : m < 9223372036854775808 := by
      have := Nat.div_le_self n (64 ^ l)
      have : (64 : Nat) ^ 6 = 68719476736 := by decide
      omega
    by_cases hlt : l < 6
    · have i1 : (l : Int) < 6 := by omega
      have e1 := hb1.cell 1
      simp only [List.getElem?_toArray, List.getElem?_cons_zero, List.getElem?_cons_succ] at e1
      have HK := Lib.hid (And.intro hb1 (And.intro hw1 (And.intro hm (And.intro ht hmm))))
      clear hb1 hw1 hm ht hmm
      go_upto_region 7 with fail
      obtain ⟨W, hW⟩ : ∃ W, (wr.alloc (.cells #[.int .i64 (l : Int), .int .i64 ((m : Int) / 64)] 107)) = W := ⟨_, rfl⟩
      obtain ⟨a, ha⟩ : ∃ a, wr.heap.size = a := ⟨_, rfl⟩
      have hbelow : Below wr.heap.size wr W := hW ▸ (Below.refl _ _).alloc (Nat.le_refl _) _
      have hbW : Blk W g 73 #[sl, .map (some mb), .int .i64 (c + 1)] := HK.out.1.below hbelow HK.out.1.lt
      have hwW : Words W (some mb) f1 := HK.out.2.1.keep fun mb' e => hbelow.block mb' (by cases e; exact HK.out.2.1.lt)
      have hnW : Blk W a 107 #[.int .i64 (l : Int), .int .i64 ((m : Int) / 64)] := by
        rw [← hW, ← ha]
        exact Blk.new _ _ _
      have hl := hwW.looki (W := W.drew) (fun _ _ => rfl) l (m / 64) (l : Int) ((m : Int) / 64) rfl (by omega) (by omega) (by omega)
      have d1 := hbW.cell 1
      have d2 := hnW.cell 0
      have d3 := hnW.cell 1
      simp only [List.getElem?_toArray, List.getElem?_cons_zero, List.getElem?_cons_succ] at d1 d2 d3
      have HW := Lib.hid (And.intro hW (And.intro ha (And.intro hbelow (And.intro hbW (And.intro hwW hnW)))))
      rw [ha, hW]
      obtain ⟨v, hv⟩ : ∃ v, f1 l (m / 64) = v := ⟨_, rfl⟩
      rw [hv] at hl
      clear hbelow hbW hwW hnW e1 hW ha
      have HV := Lib.hid hv
      clear hv
      go_region
      obtain ⟨V, hV⟩ : ∃ V, W.drew = V := ⟨_, rfl⟩
      rw [hV]
      clear hl d1 d2 d3
      have hwV : Words V (some mb) f1 := hV ▸ HW.out.2.2.2.2.1
      have hnV : Blk V a 107 #[.int .i64 (l : Int), .int .i64 ((m : Int) / 64)] := hV ▸ HW.out.2.2.2.2.2
      have hbV : Blk V g 73 #[sl, .map (some mb), .int .i64 (c + 1)] := hV ▸ HW.out.2.2.2.1
      have d1 := hbV.cell 1
      have d2 := hnV.cell 0
      have d3 := hnV.cell 1
      simp only [List.getElem?_toArray, List.getElem?_cons_zero, List.getElem?_cons_succ] at d1 d2 d3
      have h0 := HK.out.2.2.1 l hlt (m / 64)
      simp only [Nat.lt_irrefl, if_false] at h0
      have hvl : v < 18446744073709551616 := HV.out ▸ h0.1
      obtain ⟨o, hst, hwo⟩ := hwV.store l (m / 64) (v ||| 2 ^ (m % 64)) (l : Int) ((m : Int) / 64) _ rfl (by omega) (or_digit v (m % 64) hvl (Nat.mod_lt _ (by decide))) (by omega) (by omega)
      have hs := hst V.drew rfl
      have HV2 := Lib.hid (And.intro hV (And.intro hwV (And.intro hnV (And.intro hbV hwo))))
      clear hV hwV hnV hbV hst hwo h0 hvl
      go_upto_region 8 with fail
      go_region
      obtain ⟨U, hU⟩ : ∃ U, setBlock V.drew mb o = U := ⟨_, rfl⟩
      rw [hU]
      have FIN : Hid (Blk U g 73 #[sl, .map (some mb), .int .i64 (c + 1)] ∧ Words U (some mb) (Wt.upd f1 l (m / 64) (v ||| 2 ^ (m % 64))) ∧ Wt.Mid S (Wt.with_ S n) (l + 1) (Wt.upd f1 l (m / 64) (v ||| 2 ^ (m % 64))) ∧ Turns (fun b => b = g ∨ b = mb) w U) := by
        refine Lib.hid ⟨?_, ?_, ?_, ?_⟩
        · rw [← hU]
          exact (setBlock_heap_other H.out.2.2.2.1.symm).trans HV2.out.2.2.2.1
        · refine HV2.out.2.2.2.2 U ?_
          rw [← hU]
          exact setBlock_heap_same (HV2.out.2.1.lt)
        · have h1 := HK.out.2.2.1.put (n := n) hlt
          rw [← HK.out.2.2.2.2, HV.out] at h1
          exact h1
        · have h1 : Turns (fun b => b = g ∨ b = mb) w V := HV2.out.1 ▸ (HK.out.2.2.2.1.trans (Turns.of_below HW.out.2.2.1)).drew
          rw [← hU]
          exact h1.drew.setBlock o (fun _ => .inr rfl)
      clear hU hs d1 d2 d3
      by_cases hz : v = 0
      · have z1 : ((v : Int) == 0) = true := by simp [hz]
        clear hz
        go_wp2_with fail
        refine ⟨⟨l + 1, m / 64, _, by omega, by go_num, by go_num, by rw [HK.out.2.2.2.2, Wt.div_up], FIN.out.1, FIN.out.2.1, FIN.out.2.2.1, FIN.out.2.2.2⟩, ?_⟩
        simp [intOf]
        omega
      · have z1 : ((v : Int) == 0) = false := by simp [hz]
        go_wp2_with fail
        refine bodyPost_ret (results_none rfl _ _ _) rfl ⟨rfl, _, FIN.out.1, FIN.out.2.1, ?_, FIN.out.2.2.2⟩
        have h1 := Wt.put_stop HK.out.2.2.1 hlt (fun x hx => hx.elim (H.out.2.2.1.few x) (fun e => e ▸ hn)) (by rw [← HK.out.2.2.2.2, HV.out]; exact hz)
        rw [← HK.out.2.2.2.2, HV.out] at h1
        exact h1
    · obtain rfl : l = 6 := by omega
      have i1 : ¬ ((6 : Nat) : Int) < 6 := by omega
      have HF := Lib.hid (And.intro hb1 (And.intro hw1 (And.intro hm ht)))
      clear hb1 hw1 hm ht hlt
      go_wp2_with fail
      refine bodyPost_end (results_none rfl _ _ _) rfl ⟨rfl, f1, HF.out.1, HF.out.2.1, HF.out.2.2.1.last (fun x hx => hx.elim (H.out.2.2.1.few x) (fun e => e ▸ hn)), HF.out.2.2.2⟩
end Go.Proofs.YtgpcpjjdneimfaaDoor
