/- Stage 4's statements: a row's kinds; what the stage's theorem says, in plain words. -/
import Derived.Test.YtbafbhnnonfkpaaLawC
namespace Go.Proofs.Ytbafbhnnonfkpaa
open Go.ChangeShapes Go.WideShapes Go.ChangeAt Go.RowKit

def kindsL (l : List PT) : List Nat := l.map PT.k
def KindsP (w : World) (l : List Nat) (e : Ending) (w' : World) : Prop := ∃ (A : Option Addr) (c : Nat), e = .returned (.slice A l.length c) ∧ Bytes w' w'.heap.size A l.length l ∧ Below w.heap.size w w'
set_option maxRecDepth 100000 in
set_option maxHeartbeats 1000000 in
theorem kinds_any (n c B : Nat) (A : Option Addr) (l : List PT) (w : World) (h : Parts w B A n l) (hB : B ≤ w.heap.size) (hn : n ≤ 1000) : Calls Try.prog 29 #[.slice A n c] w (KindsP w (kindsL l)) := by
  obtain ⟨i0, hi, hz0, hz1, hz2⟩ := info_parts Try.info5
  have HI := Lib.hid (And.intro hi (And.intro hz0 (And.intro hz1 hz2)))
  have HP := Lib.hid h
  clear hi hz0 hz1 hz2 h
  go_enter Try.func29, Try.ntmps29
  go_wp2_with fail
  go_loopw [3, 4] (fun r i wr => ∃ j : Nat, j ≤ n ∧ i = .int .i64 (j : Int) ∧ wr.ownsRow w.heap.size 5 1 r j (u8s (kindsL (l.take j))) ∧ Below w.heap.size w wr) (fun _ i _ => n - (intOf i).toNat)
  case atStart => exact ⟨0, by omega, rfl, own_nil _ _ _ _, Below.refl _ _⟩
  case round =>
    obtain ⟨j, hj, rfl, hown, hbel⟩ := hrel
    have HO := Lib.hid (And.intro hown hbel)
    clear hown
    by_cases hlt : j < n
    · obtain ⟨b, off, rfl, hb, hc⟩ := HP.out.2.2 (by omega)
      have hst := snoc_at l j (by rw [HP.out.1]; exact hlt)
      have hcj := (hc j hlt).1
      generalize l.getD j default = p at hcj hst
      have hck := (hbel.cell (p := ⟨b, off + j * 3, none⟩) (by show b < w.heap.size; omega)).trans hcj
      have i1 : (0 : Int) ≤ j := by omega
      have i2 : (j : Int) < n := by omega
      have HS := Lib.hid hst
      clear hc hcj hbel hst
      go_wp2_with (at_builtin; refine wpList_append_own _ rfl _ _ 32 rfl w.heap.size 5 i0 (.int .u8 0) 1 1 Try.underlying32 HI.out.1 HI.out.2.1 HI.out.2.2.1 HI.out.2.2.2 rfl (by decide) _ j _ rfl (HO.out.1.alloc _) ⟨wr.heap.size, 0, none⟩ 1 1 [.int .u8 (p.k : Int)] rfl rfl (one_cell wr _ _) (by simp [Value.oneCell']) (by unfold maxLen; omega) (by omega) (by have := HO.out.2.size; simp; omega) ?_; intro v1 w1 ho1 hg1 _; have D1 := Lib.hid (grow_below HO.out.2 hg1 (fun g hg => (HO.out.1.lt g hg).1)))
      refine ⟨⟨j + 1, by omega, by go_num, ?_, D1.out⟩, by simp [intOf]; omega⟩
      have e : u8s (kindsL (l.take (j + 1))) = u8s (kindsL (l.take j)) ++ [.int .u8 (p.k : Int)] := by
        rw [HS.out]
        simp [kindsL, u8s]
      rw [e]
      exact ho1
    · obtain rfl : n = j := by omega
      obtain ⟨A1, c1, rfl⟩ := own_slice HO.out.1
      have hfull := HO.out.1
      rw [List.take_of_length_le (by rw [HP.out.1]; omega)] at hfull
      have HF := Lib.hid hfull
      clear hfull hbel
      go_wp2_with fail
      go_ret
      have hl : n = (kindsL l).length := by unfold kindsL; rw [List.length_map]; exact HP.out.1.symm
      have hb := Bytes.of_own HF.out (by
        intro x hx
        obtain ⟨p, hp, rfl⟩ := List.mem_map.1 hx
        exact (HP.out.2.1 p hp).1)
      rw [hl] at hb ⊢
      exact ⟨A1, c1, rfl, hb, HO.out.2⟩
/-- A row that holds nothing but what its kinds say. -/
def Plain (p : PT) : Prop := (p.k = 1 ∧ p.s = ⟨#[]⟩ ∧ big p.n) ∨ (p.k = 2 ∧ p.n = 0 ∧ p.s.size ≤ 100)
theorem Plain.ok {p : PT} (h : Plain p) : p.ok := by
  rcases h with ⟨h1, h2, h3⟩ | ⟨h1, h2, h3⟩
  · exact ⟨by omega, h3, by rw [h2]; show (0 : Nat) ≤ _; omega⟩
  · exact ⟨by omega, by rw [h2]; omega, by omega⟩
theorem Plain.normal {p : PT} (h : Plain p) : Ky.Normal p.to := by
  rcases h with ⟨h1, h2, h3⟩ | ⟨h1, h2, h3⟩
  · exact .inl ⟨h1, by show nums p.s = []; rw [h2]; rfl, h3⟩
  · exact .inr ⟨h1, h2, nums_byte p.s⟩
theorem rowOne_plain (ns : List Int) (ss : List ByteArray) (i : Nat) (p : PT) (hn : ∀ x ∈ ns, big x) (hs : ∀ x ∈ ss, x.size ≤ 100) : Plain (rowOne ns ss i p) := by
  unfold rowOne
  split
  · refine .inl ⟨rfl, rfl, ?_⟩
    show big (ns.getD (i % ns.length) 0)
    rw [List.getD_eq_getElem?_getD]
    rcases hx : ns[i % ns.length]? with _ | x
    · show big 0
      unfold big; omega
    · exact hn x (List.mem_of_getElem? hx)
  · refine .inr ⟨rfl, rfl, ?_⟩
    show (ss.getD (i % ss.length) ByteArray.empty).size ≤ 100
    rw [List.getD_eq_getElem?_getD]
    rcases hx : ss[i % ss.length]? with _ | x
    · show (0 : Nat) ≤ 100
      omega
    · exact hs x (List.mem_of_getElem? hx)
theorem rowL_plain (l : List PT) (ns : List Int) (ss : List ByteArray) (hn : ∀ x ∈ ns, big x) (hs : ∀ x ∈ ss, x.size ≤ 100) : ∀ p ∈ rowL l ns ss, Plain p := by
  intro p hp
  obtain ⟨i, q, rfl⟩ : ∃ i q, p = rowOne ns ss i q := by
    unfold rowL at hp
    rw [List.mem_mapIdx] at hp
    obtain ⟨i, hi, e⟩ := hp
    exact ⟨i, _, e.symm⟩
  exact rowOne_plain ns ss i q hn hs
theorem rowL_kinds (l : List PT) (ns ns' : List Int) (ss ss' : List ByteArray) : kindsL (rowL l ns ss) = kindsL (rowL l ns' ss') := by
  have key : ∀ (ns : List Int) (ss : List ByteArray), kindsL (rowL l ns ss) = l.map fun p => if p.k = 1 then 1 else 2 := by
    intro ns ss
    apply List.ext_getElem
    · simp [kindsL, rowL]
    · intro i h1 h2
      simp only [kindsL, rowL, List.getElem_map, List.getElem_mapIdx]
      unfold rowOne
      split <;> rfl
  rw [key, key]
theorem kinds_to (l : List PT) : Ky.kinds (tos l) = kindsL l := by
  unfold Ky.kinds tos kindsL
  rw [List.map_map]
  rfl
theorem plain_normal {l : List PT} (h : ∀ p ∈ l, Plain p) : ∀ p ∈ tos l, Ky.Normal p := by
  intro p hp
  obtain ⟨q, hq, rfl⟩ := List.mem_map.1 hp
  exact (h q hq).normal
theorem plain_right {l : List PT} (h : ∀ p ∈ l, Plain p) : ∀ p ∈ tos l, Ky.Right p := by
  intro p hp
  obtain ⟨q, hq, rfl⟩ := List.mem_map.1 hp
  exact (h q hq).ok.2.1
theorem plain_parse {l : List PT} (h : ∀ p ∈ l, Plain p) {X : ByteArray} (hX : nums X = Ky.put (tos l)) : Ky.parse (nums X) (kindsL l) = some (tos l) :=
  (Ky.parse_iff _ _ (nums_byte X) _).2 ⟨kinds_to l, plain_normal h, hX.symm⟩
/-- Two rows of the same kinds stand as the texts that write them, and neither is the other one's beginning. -/
theorem plain_order {a b : List PT} (ha : ∀ p ∈ a, Plain p) (hb : ∀ p ∈ b, Plain p) (hk : kindsL a = kindsL b) {X Y : ByteArray} (hX : nums X = Ky.put (tos a)) (hY : nums Y = Ky.put (tos b)) :
    Ky.cmp (nums X) (nums Y) = Ky.cmpRow (tos a) (tos b) ∧ (X = Y ∨ ((∀ z, nums Y ≠ nums X ++ z) ∧ ∀ z, nums X ≠ nums Y ++ z)) := by
  rcases Ky.put_cmp (by rw [kinds_to, kinds_to, hk]) (plain_right ha) (plain_right hb) with ⟨h1, h2⟩ | ⟨h1, h2⟩ | ⟨h1, h2⟩
  · have : X = Y := nums_inj (by rw [hX, hY, h2])
    subst this
    exact ⟨by rw [Ky.cmp_refl, h1], .inl rfl⟩
  · rw [← hX, ← hY] at h2
    exact ⟨by rw [h2.cmp, h1], .inr h2.apart⟩
  · rw [← hX, ← hY] at h2
    exact ⟨by rw [h2.cmp', h1], .inr ⟨h2.apart.2, h2.apart.1⟩⟩
theorem plain_len {l : List PT} (h : ∀ p ∈ l, Plain p) (hn : l.length ≤ 8) {X : ByteArray} (hX : nums X = Ky.put (tos l)) : X.size ≤ 1000000 := by
  have key : ∀ l : List PT, (∀ p ∈ l, Plain p) → (Ky.put (tos l)).length ≤ 202 * l.length := by
    intro l
    induction l with
    | nil => intro _; simp [tos, Ky.put]
    | cons p l ih =>
      intro h
      have h2 := ih (fun q hq => h q (by simp [hq]))
      have h1 : (Ky.enc p.to).length ≤ 202 := by
        unfold Ky.enc
        split
        · rw [Pk.be_len]; omega
        · rename_i hk
          unfold Ky.text
          have h3 := esc_len (nums p.s)
          rw [nums_len] at h3
          rw [List.length_append]
          rcases h p (by simp) with ⟨h4, _⟩ | ⟨_, _, h4⟩
          · exact absurd h4 hk
          · show (Ky.esc (nums p.s)).length + 2 ≤ 202
            omega
      show (Ky.enc p.to ++ Ky.put (tos l)).length ≤ _
      rw [List.length_append, List.length_cons]
      omega
  have := key l h
  rw [← nums_len, hX]
  omega
end Go.Proofs.Ytbafbhnnonfkpaa
