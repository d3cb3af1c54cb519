/- A number waits no longer. -/
import Derived.Test.YtgpcpjjdneimfaaDoorWp
namespace Go.Proofs.YtgpcpjjdneimfaaDoor
open Go.ChangeShapes Go.WideShapes Go.ChangeAt Go.RowKit Go.MapKept
open Go.ChangeMaps (setBlock)

/-- A word that is there is taken and filled. -/
theorem Words.entry {w : World} {mb : Nat} {f : Nat → Nat → Nat} (h : Words w (some mb) f) (l a : Nat) (x y : Int) (hx : x = l) (hy : y = a) (hl : l < 9223372036854775808) (ha : a < 9223372036854775808) (hf : f l a ≠ 0) :
    ∃ st : Nat, (∀ W : World, W.heap[mb]? = w.heap[mb]? → (Instr.mapEntry 69 (.map (some mb)) (.agg #[.int .i64 x, .int .i64 y])).run Tryd.prog W = .ok (.tuple #[.int .u64 (f l a : Int), .int .i64 (st : Int)]) W) ∧
      ∀ (v : Nat) (z : Int), z = v → ∃ o : Obj, (∀ W : World, W.heap[mb]? = w.heap[mb]? → (Instr.entryStore 69 (.map (some mb)) (.int .i64 (st : Int)) (.int .u64 z)).run Tryd.prog W = .ok () (setBlock W mb o)) ∧ ∀ W : World, W.heap[mb]? = some o → Words W (some mb) (Wt.upd f l a v) := by
  subst hx hy
  obtain ⟨es, clock, g, hb, he, hg⟩ := h
  obtain ⟨k, hk⟩ := wkey_reads l a hl ha
  obtain ⟨v0, hv⟩ : ∃ v0, g (wkey l a) = some v0 := by
    cases hh : g (wkey l a) with
    | some v0 => exact ⟨v0, rfl⟩
    | none =>
      have := hg l a
      rw [hh] at this
      injection this with _ this
      exact absurd (by exact_mod_cast this.symm) hf
  have hv0 : v0 = .int .u64 (f l a : Int) := by
    have := hg l a
    rw [hv] at this
    exact this
  obtain ⟨st, h1, h2⟩ := he.entry word_keyed Tryd.underlying69 hk hv
  refine ⟨st, fun W hW => by rw [← hv0]; exact h1 mb W (hW.trans hb), fun v z hz => ?_⟩
  subst hz
  obtain ⟨es', he', hrun⟩ := h2 (.int .u64 (v : Int))
  refine ⟨.map es' clock, fun W hW => hrun mb W (hW.trans hb), fun W hW => ⟨es', clock, _, hW, he', fun l' a' => ?_⟩⟩
  by_cases e : l' = l ∧ a' = a
  · obtain ⟨rfl, rfl⟩ := e
    rw [updE_same, Wt.upd_same]
    rfl
  · rw [updE_other _ _ _ (fun hh => e (wkey_inj hh)), Wt.upd_other _ _ _ _ e]
    exact hg l' a'
/-- A word is struck. -/
theorem Words.drop {w : World} {mb : Nat} {f : Nat → Nat → Nat} (h : Words w (some mb) f) (l a : Nat) (x y : Int) (hx : x = l) (hy : y = a) (hl : l < 9223372036854775808) (ha : a < 9223372036854775808) (ty : TypeId) :
    ∃ o : Obj, (∀ W : World, W.heap[mb]? = w.heap[mb]? → (Builtin.delete_ #[69, 107] ty #[.map (some mb), .agg #[.int .i64 x, .int .i64 y]]).run Tryd.prog W = .ok (.tuple #[]) (setBlock W mb o)) ∧ ∀ W : World, W.heap[mb]? = some o → Words W (some mb) (Wt.upd f l a 0) := by
  subst hx hy
  obtain ⟨es, clock, g, hb, he, hg⟩ := h
  obtain ⟨k, hk⟩ := wkey_reads l a hl ha
  obtain ⟨es', he', hrun⟩ := he.drop word_keyed Tryd.underlying69 hk ty
  refine ⟨.map es' clock, fun W hW => hrun mb W (hW.trans hb), fun W hW => ⟨es', clock, _, hW, he', fun l' a' => ?_⟩⟩
  by_cases e : l' = l ∧ a' = a
  · obtain ⟨rfl, rfl⟩ := e
    rw [updE_same, Wt.upd_same]
    rfl
  · rw [updE_other _ _ _ (fun hh => e (wkey_inj hh)), Wt.upd_other _ _ _ _ e]
    exact hg l' a'
theorem strike_digit (v k : Nat) (hv : v < 18446744073709551616) (hk : k < 64) : bits .andNot .u64 (v : Int) (IntKind.u64.wrap (2 ^ k)) = ((Wt.strike v k : Nat) : Int) := by
  have h1 : 2 ^ k < 2 ^ 64 := Nat.pow_lt_pow_right (by decide) hk
  have e : IntKind.u64.wrap (2 ^ k) = ((2 ^ k : Nat) : Int) := by
    rw [IntKind.wrap_u64]
    have : ((2 : Int) ^ k) = ((2 ^ k : Nat) : Int) := by rw [Int.natCast_pow]; rfl
    rw [this]
    exact Int.emod_eq_of_lt (Int.natCast_nonneg _) (Int.ofNat_lt.2 (show 2 ^ k < 18446744073709551616 from h1))
  rw [e]
  exact u64_andNot_nat v (2 ^ k) hv h1
theorem upd_upd (f : Nat → Nat → Nat) (l a v v' : Nat) : Wt.upd (Wt.upd f l a v) l a v' = Wt.upd f l a v' := by
  funext x y
  unfold Wt.upd
  split <;> rfl
def DropPost (w : World) (g mb n : Nat) (sl : Value) (c : Int) (S : Nat → Prop) (w' : World) : Prop :=
  ∃ f', Blk w' g 73 #[sl, .map (some mb), .int .i64 (c - 1)] ∧ Words w' (some mb) f' ∧ Wt.Rep (Wt.without S n) f' ∧ Turns (fun b => b = g ∨ b = mb) w w'
set_option maxRecDepth 100000 in
theorem drop_any (w : World) (g n mb : Nat) (sl : Value) (c : Int) (S : Nat → Prop) (f : Nat → Nat → Nat) (hb : Blk w g 73 #[sl, .map (some mb), .int .i64 c]) (hw : Words w (some mb) f) (hr : Wt.Rep S f) (hn : S n) (hc : 0 < c) (hc2 : c < 4611686018427387904) :
    Calls Tryd.prog 49 #[.pointer (some ⟨g, 1, none⟩), .int .i64 (n : Int)] w fun e w' => e = .returned (.tuple #[]) ∧ DropPost w g mb n sl c S w' := by
  have hn6 := hr.few n hn
  have c1 := hb.cell 1
  have c2 := hb.cell 2
  have f2 := hb.frozen 2
  simp only [List.getElem?_toArray, List.getElem?_cons_zero, List.getElem?_cons_succ] at c1 c2
  have hne := hw.ne hb
  have H := Lib.hid (And.intro hb (And.intro hw (And.intro hr (And.intro hne hn))))
  clear hb hw hr hne hn
  go_enter Tryd.func49, Tryd.ntmps49
  go_wp2_with fail
  rename World => w
  go_loopw [1, 13] (fun v i wr => ∃ (l m : Nat) (f1 : Nat → Nat → Nat), l ≤ 6 ∧ i = .int .i64 (l : Int) ∧ v = .int .i64 (m : Int) ∧ m = n / 64 ^ l ∧ Blk wr g 73 #[sl, .map (some mb), .int .i64 (c - 1)] ∧ Words wr (some mb) f1 ∧ Wt.Mid S (Wt.without S n) l f1 ∧ (∀ x, Wt.without S n x → x / 64 ^ l ≠ n / 64 ^ l) ∧ Turns (fun b => b = g ∨ b = mb) w wr) (fun _ i _ => 6 - (intOf i).toNat)
  case atStart =>
    refine ⟨0, n, f, by omega, rfl, rfl, by simp, H.out.1.set_ 2 _, ?_, Wt.Mid.start H.out.2.2.1, fun x hx => by simpa using hx.2, (Turns.refl _ _).setCell 2 _ (fun _ => .inl rfl)⟩
    exact H.out.2.1.keep fun mb' e => by
      cases e
      exact Below.heap_setCell w _ _ mb H.out.2.2.2.1
  case round =>
    obtain ⟨l, m, f1, hl6, rfl, rfl, hmm, hb1, hw1, hm, hg, ht⟩ := hrel
    have hmb : m < 9223372036854775808 := by
      have := Nat.div_le_self n (64 ^ l)
      have : (64 : Nat) ^ 6 = 68719476736 := by decide
      omega
    by_cases hlt : l < 6
    · have i1 : (l : Int) < 6 := by omega
      have e1 := hb1.cell 1
      simp only [List.getElem?_toArray, List.getElem?_cons_zero, List.getElem?_cons_succ] at e1
      have hne := hm.here hlt H.out.2.2.2.2
      rw [← hmm] at hne
      have HK := Lib.hid (And.intro hb1 (And.intro hw1 (And.intro hm (And.intro ht (And.intro hmm (And.intro hg hne))))))
      clear hb1 hw1 hm ht hmm hg
      go_upto_region 5 with fail
      obtain ⟨W, hW⟩ : ∃ W, (wr.alloc (.cells #[.int .i64 (l : Int), .int .i64 ((m : Int) / 64)] 107)) = W := ⟨_, rfl⟩
      obtain ⟨a, ha⟩ : ∃ a, wr.heap.size = a := ⟨_, rfl⟩
      have hbelow : Below wr.heap.size wr W := hW ▸ (Below.refl _ _).alloc (Nat.le_refl _) _
      have hbW : Blk W g 73 #[sl, .map (some mb), .int .i64 (c - 1)] := HK.out.1.below hbelow HK.out.1.lt
      have hwW : Words W (some mb) f1 := HK.out.2.1.keep fun mb' e => hbelow.block mb' (by cases e; exact HK.out.2.1.lt)
      have hnW : Blk W a 107 #[.int .i64 (l : Int), .int .i64 ((m : Int) / 64)] := by
        rw [← hW, ← ha]
        exact Blk.new _ _ _
      have han : mb ≠ a := by have := HK.out.2.1.lt; omega
      have hag : g ≠ a := by have := HK.out.1.lt; omega
      have d1 := hbW.cell 1
      have d2 := hnW.cell 0
      have d3 := hnW.cell 1
      simp only [List.getElem?_toArray, List.getElem?_cons_zero, List.getElem?_cons_succ] at d1 d2 d3
      have h0 := HK.out.2.2.1 l hlt (m / 64)
      simp only [Nat.lt_irrefl, if_false] at h0
      have hlook := hwW.looki (W := W.drew) (fun _ _ => rfl) l (m / 64) (l : Int) ((m : Int) / 64) rfl (by omega) (by omega) (by omega)
      obtain ⟨st, hen, hes⟩ := hwW.entry l (m / 64) (l : Int) ((m : Int) / 64) rfl (by omega) (by omega) (by omega) hne
      obtain ⟨v, hv⟩ : ∃ v, f1 l (m / 64) = v := ⟨_, rfl⟩
      rw [hv] at hlook h0 hen
      obtain ⟨z, hz⟩ : ∃ z, Wt.strike v (m % 64) = z := ⟨_, rfl⟩
      obtain ⟨o, hst, hwo⟩ := hes z _ ((strike_digit v (m % 64) h0.1 (Nat.mod_lt _ (by decide))).trans (by rw [hz]))
      have hn1 := hen W.drew rfl
      have hs := hst W.drew rfl
      have HW := Lib.hid (And.intro hW (And.intro ha (And.intro hbelow (And.intro hbW (And.intro hwW (And.intro hnW (And.intro hv (And.intro hz (And.intro hwo (And.intro han hag))))))))))
      rw [ha, hW]
      clear hbelow hbW hwW hnW e1 hW ha hv hz hwo hst hes hen h0 han hag hne
      go_region
      obtain ⟨U, hU⟩ : ∃ U, setBlock W.drew mb o = U := ⟨_, rfl⟩
      rw [hU]
      clear hn1 hs hlook d1 d2 d3
      have hbU : Blk U g 73 #[sl, .map (some mb), .int .i64 (c - 1)] := by
        rw [← hU]
        exact (setBlock_heap_other H.out.2.2.2.1.symm).trans HW.out.2.2.2.1
      have hnU : Blk U a 107 #[.int .i64 (l : Int), .int .i64 ((m : Int) / 64)] := by
        rw [← hU]
        exact (setBlock_heap_other HW.out.2.2.2.2.2.2.2.2.2.1.symm).trans HW.out.2.2.2.2.2.1
      have hwU : Words U (some mb) (Wt.upd f1 l (m / 64) z) := by
        refine HW.out.2.2.2.2.2.2.2.2.1 U ?_
        rw [← hU]
        exact setBlock_heap_same HW.out.2.2.2.2.1.lt
      have htU : Turns (fun b => b = g ∨ b = mb) w U := by
        rw [← hU]
        exact (HK.out.2.2.2.1.trans (Turns.of_below HW.out.2.2.1)).drew.setBlock o (fun _ => .inr rfl)
      have hmU : Wt.Mid S (Wt.without S n) (l + 1) (Wt.upd f1 l (m / 64) z) := by
        have h1 := HK.out.2.2.1.drop (n := n) hlt HK.out.2.2.2.2.2.1
        rw [← HK.out.2.2.2.2.1, HW.out.2.2.2.2.2.2.1, HW.out.2.2.2.2.2.2.2.1] at h1
        exact h1
      have d1 := hbU.cell 1
      have d2 := hnU.cell 0
      have d3 := hnU.cell 1
      simp only [List.getElem?_toArray, List.getElem?_cons_zero, List.getElem?_cons_succ] at d1 d2 d3
      have hlook := hwU.looki (W := U.drew) (fun _ _ => rfl) l (m / 64) (l : Int) ((m : Int) / 64) rfl (by omega) (by omega) (by omega)
      rw [Wt.upd_same] at hlook
      have HU := Lib.hid (And.intro hbU (And.intro hnU (And.intro hwU (And.intro htU hmU))))
      clear hU hbU hnU hwU htU hmU
      by_cases hz : z = 0
      · have z1 : ((z : Int) == 0) = true := by simp [hz]
        have HZ := Lib.hid hz
        clear hz
        go_upto_region 6 with fail
        go_region
        go_upto_region 7 with fail
        obtain ⟨V, hV⟩ : ∃ V, U.drew = V := ⟨_, rfl⟩
        rw [hV]
        clear hlook d1 d2 d3 z1
        have hbV : Blk V g 73 #[sl, .map (some mb), .int .i64 (c - 1)] := hV ▸ HU.out.1
        have hnV : Blk V a 107 #[.int .i64 (l : Int), .int .i64 ((m : Int) / 64)] := hV ▸ HU.out.2.1
        have hwV : Words V (some mb) (Wt.upd f1 l (m / 64) z) := hV ▸ HU.out.2.2.1
        have htV : Turns (fun b => b = g ∨ b = mb) w V := hV ▸ HU.out.2.2.2.1.drew
        have d1 := hbV.cell 1
        have d2 := hnV.cell 0
        have d3 := hnV.cell 1
        simp only [List.getElem?_toArray, List.getElem?_cons_zero, List.getElem?_cons_succ] at d1 d2 d3
        obtain ⟨o2, hdel, hwo⟩ := hwV.drop l (m / 64) (l : Int) ((m : Int) / 64) rfl (by omega) (by omega) (by omega) 0
        have hd := hdel V.drew rfl
        have HV := Lib.hid (And.intro hbV (And.intro hwV (And.intro htV hwo)))
        clear hV hbV hnV hwV htV hwo hdel
        go_region
        obtain ⟨U3, hU3⟩ : ∃ U3, setBlock V.drew mb o2 = U3 := ⟨_, rfl⟩
        rw [hU3]
        have FIN : Hid (Blk U3 g 73 #[sl, .map (some mb), .int .i64 (c - 1)] ∧ Words U3 (some mb) (Wt.upd f1 l (m / 64) 0) ∧ Turns (fun b => b = g ∨ b = mb) w U3) := by
          refine Lib.hid ⟨?_, ?_, ?_⟩
          · rw [← hU3]
            exact (setBlock_heap_other H.out.2.2.2.1.symm).trans HV.out.1
          · rw [← upd_upd f1 l (m / 64) z 0]
            refine HV.out.2.2.2 U3 ?_
            rw [← hU3]
            exact setBlock_heap_same HV.out.2.1.lt
          · rw [← hU3]
            exact HV.out.2.2.1.drew.setBlock o2 (fun _ => .inr rfl)
        clear hU3 hd d1 d2 d3
        go_wp2_with fail
        have h1 := HU.out.2.2.2.2
        rw [HZ.out] at h1
        have h2 := Wt.drop_on HK.out.2.2.1 hlt HK.out.2.2.2.2.2.1 (by rw [← HK.out.2.2.2.2.1, HW.out.2.2.2.2.2.2.1, HW.out.2.2.2.2.2.2.2.1, HZ.out])
        refine ⟨⟨l + 1, m / 64, _, by omega, by go_num, by go_num, by rw [HK.out.2.2.2.2.1, Wt.div_up], FIN.out.1, FIN.out.2.1, h1, h2, FIN.out.2.2⟩, ?_⟩
        simp [intOf]
        omega
      · have z1 : ((z : Int) == 0) = false := by simp [hz]
        go_upto_region 6 with fail
        go_region
        go_wp2_with fail
        have h1 := Wt.drop_stop HK.out.2.2.1 hlt H.out.2.2.1.few HK.out.2.2.2.2.2.1 (by rw [← HK.out.2.2.2.2.1, HW.out.2.2.2.2.2.2.1, HW.out.2.2.2.2.2.2.2.1]; exact hz)
        rw [← HK.out.2.2.2.2.1, HW.out.2.2.2.2.2.2.1, HW.out.2.2.2.2.2.2.2.1] at h1
        refine bodyPost_ret (results_none rfl _ _ _) rfl ⟨rfl, _, HU.out.1, HU.out.2.2.1, h1, HU.out.2.2.2.1.drew⟩
    · obtain rfl : l = 6 := by omega
      have i1 : ¬ ((6 : Nat) : Int) < 6 := by omega
      have HF := Lib.hid (And.intro hb1 (And.intro hw1 (And.intro hm ht)))
      clear hb1 hw1 hm ht hlt
      go_wp2_with fail
      refine bodyPost_end (results_none rfl _ _ _) rfl ⟨rfl, f1, HF.out.1, HF.out.2.1, HF.out.2.2.1.last (fun x hx => H.out.2.2.1.few x hx.1), HF.out.2.2.2⟩
end Go.Proofs.YtgpcpjjdneimfaaDoor
