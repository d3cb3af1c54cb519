/- Layer 7's plain mathematics: frames, well and spoilt, one behind the other. -/
import Derived.Test.YtnokbnobnhkmgaaFrS
import Derived.Test.YtnokbnobnhkmgaaFlip1
namespace Go.Proofs.Ytnokbnobnhkmgaa
open Go.ChangeShapes Go.WideShapes Go.ChangeAt Go.RowKit
namespace Fr
/-- Bytes that are as long as a frame is, by their first four. -/
def whole (f : List Nat) : Prop := f.length = Pk.num (f.take 4) + 8 ∧ Pk.num (f.take 4) ≤ 8192
def body (f : List Nat) : List Nat := (f.drop 4).take (Pk.num (f.take 4))
/-- What such bytes are. -/
def is (f : List Nat) : List Nat × Int := if f = enc (body f) then (body f, 0) else ([], 72)
theorem tkA_whole {f q : List Nat} (h : whole f) : tkA (f ++ q) 0 = ((is f).1, f.length, (is f).2) := by
  obtain ⟨h1, h2⟩ := h
  unfold tkA tkN
  rw [if_neg (by rw [List.length_append]; omega), List.drop_zero]
  have e4 : (f ++ q).take 4 = f.take 4 := List.take_append_of_le_length (by omega)
  rw [e4, if_neg (by omega), if_neg (by rw [List.length_append]; omega)]
  have e5 : ((f ++ q).drop 4).take (Pk.num (f.take 4)) = body f := by
    unfold body
    rw [List.drop_append_of_le_length (by omega), List.take_append_of_le_length (by rw [List.length_drop]; omega)]
  have e6 : (f ++ q).take (8 + Pk.num (f.take 4)) = f := by
    rw [List.take_append_of_le_length (by omega)]
    exact List.take_of_length_le (by omega)
  rw [e5, e6]
  unfold is
  split
  · dsimp only; congr 2; omega
  · dsimp only; congr 2; omega
theorem is_err (f : List Nat) : (is f).2 = 0 ∨ (is f).2 = 72 := by
  unfold is
  split
  · exact .inl rfl
  · exact .inr rfl
theorem from_nil : from_ [] 0 = ([], 0) := from_more (by unfold tkA; rw [if_pos (by simp)])
theorem from_whole {f q : List Nat} (h : whole f) : from_ (f ++ q) 0 = (is f :: (from_ q 0).1, f.length + (from_ q 0).2) := by
  have ht := tkA_whole (q := q) h
  have he := is_err f
  have e := from_step (b := f ++ q) (a := 0) (by rw [ht]; dsimp only; rcases he with he | he <;> rw [he] <;> decide) (by rw [ht]; dsimp only; rcases he with he | he <;> rw [he] <;> decide)
  rw [ht] at e
  dsimp only at e
  have hs := from_shift f q 0
  rw [Nat.add_zero] at hs
  rw [e, hs]
theorem from_wholes (fs : List (List Nat)) (h : ∀ f ∈ fs, whole f) : from_ fs.flatten 0 = (fs.map is, fs.flatten.length) := by
  induction fs with
  | nil => exact from_nil
  | cons f fs ih =>
    rw [List.flatten_cons, from_whole (h f (by simp)), ih (fun x hx => h x (by simp [hx]))]
    simp
theorem num_be4 (n : Nat) (h : n < 4294967296) : Pk.num (be4 n) = n := by
  unfold be4 Pk.num
  simp
  omega
theorem be4_inj {a b : Nat} (h : be4 a = be4 b) : a = b := by
  simp [be4] at h
  omega
theorem take4 (l : List Nat) : (enc l).take 4 = be4 l.length := by
  unfold enc
  rw [List.append_assoc, List.take_append_of_le_length (by simp [be4])]
  exact List.take_of_length_le (by simp [be4])
theorem enc_whole {l : List Nat} (h : err l = 0) : whole (enc l) := by
  have hl := err_zero.1 h
  unfold whole
  rw [take4, num_be4 _ (by omega), enc_len]
  exact ⟨rfl, hl⟩
theorem enc_body {l : List Nat} (h : err l = 0) : body (enc l) = l := by
  have hl := err_zero.1 h
  unfold body
  rw [take4, num_be4 _ (by omega)]
  unfold enc
  rw [List.append_assoc]
  have e : (be4 l.length ++ (l ++ be4 (Crc.sum [l]))).drop 4 = l ++ be4 (Crc.sum [l]) := by
    have := List.drop_left (l₁ := be4 l.length) (l₂ := l ++ be4 (Crc.sum [l]))
    rwa [show (be4 l.length).length = 4 from rfl] at this
  rw [e, List.take_left]
theorem is_enc {l : List Nat} (h : err l = 0) : is (enc l) = (l, 0) := by
  unfold is
  rw [enc_body h, if_pos rfl]
theorem flat_eq (ls : List (List Nat)) : flat ls = (ls.map enc).flatten := by unfold flat; rw [List.flatMap_def]
/-- What is put is taken as it was. -/
theorem from_flat {ls : List (List Nat)} (h : ∀ l ∈ ls, err l = 0) : from_ (flat ls) 0 = (ls.map (fun l => (l, 0)), (flat ls).length) := by
  rw [flat_eq, from_wholes _ (by intro f hf; obtain ⟨l, hl, rfl⟩ := List.mem_map.1 hf; exact enc_whole (h l hl)), List.map_map]
  congr 1
  apply List.map_congr_left
  intro l hl
  exact is_enc (h l hl)
theorem flip_ne_self {l : List Nat} {p : Nat} (hp : p < 8 * l.length) : Crc.flip l p ≠ l := by
  intro h
  have h1 : (Crc.flip l p)[p / 8]? = l[p / 8]? := by rw [h]
  unfold Crc.flip at h1
  have hlt : p / 8 < l.length := by omega
  rw [List.getElem?_set_self hlt, List.getElem?_eq_getElem hlt, List.getD_eq_getElem?_getD, List.getElem?_eq_getElem hlt] at h1
  injection h1 with h1
  have h2 : (2 : Nat) ^ (p % 8) = 0 := by
    have := congrArg (l[p / 8] ^^^ ·) h1
    simp [← Nat.xor_assoc] at this
  have := Nat.pow_pos (n := p % 8) (show 0 < 2 by omega)
  omega
theorem flip_left {a b : List Nat} {p : Nat} (hp : p < 8 * a.length) : Crc.flip (a ++ b) p = Crc.flip a p ++ b := by
  unfold Crc.flip
  have hlt : p / 8 < a.length := by omega
  rw [List.set_append_left _ _ hlt, List.getD_eq_getElem?_getD, List.getD_eq_getElem?_getD, List.getElem?_append_left hlt]
theorem flip_right {a b : List Nat} {p : Nat} : Crc.flip (a ++ b) (8 * a.length + p) = a ++ Crc.flip b p := by
  unfold Crc.flip
  have hd : (8 * a.length + p) / 8 = a.length + p / 8 := by omega
  have hm : (8 * a.length + p) % 8 = p % 8 := by omega
  rw [hd, hm, List.set_append_right _ _ (by omega), Nat.add_sub_cancel_left, List.getD_eq_getElem?_getD, List.getElem?_append_right (by omega), Nat.add_sub_cancel_left, List.getD_eq_getElem?_getD]
/-- A frame with one digit another one, behind its first four bytes, is spoilt. -/
theorem spoilt {l : List Nat} (h : err l = 0) (hl : ∀ x ∈ l, x < 256) {d : Nat} (h1 : 32 ≤ d) (h2 : d < 8 * (l.length + 8)) : whole (Crc.flip (enc l) d) ∧ is (Crc.flip (enc l) d) = ([], 72) := by
  have hlen := err_zero.1 h
  have e : Crc.flip (enc l) d = be4 l.length ++ Crc.flip (l ++ be4 (Crc.sum [l])) (d - 32) := by
    have := flip_right (a := be4 l.length) (b := l ++ be4 (Crc.sum [l])) (p := d - 32)
    rw [show 8 * (be4 l.length).length + (d - 32) = d by rw [show (be4 l.length).length = 4 from rfl]; omega] at this
    rw [← this]
    unfold enc
    rw [List.append_assoc]
  have ht : (Crc.flip (enc l) d).take 4 = be4 l.length := by
    rw [e, List.take_append_of_le_length (by simp [be4])]
    exact List.take_of_length_le (by simp [be4])
  have hw : whole (Crc.flip (enc l) d) := by
    unfold whole
    rw [ht, num_be4 _ (by omega), Crc.flip_len, enc_len]
    exact ⟨rfl, hlen⟩
  refine ⟨hw, ?_⟩
  unfold is
  rw [if_neg]
  intro hc
  have hb : body (Crc.flip (enc l) d) = (Crc.flip (l ++ be4 (Crc.sum [l])) (d - 32)).take l.length := by
    unfold body
    rw [ht, num_be4 _ (by omega), e]
    have := List.drop_left (l₁ := be4 l.length) (l₂ := Crc.flip (l ++ be4 (Crc.sum [l])) (d - 32))
    rw [show (be4 l.length).length = 4 from rfl] at this
    rw [this]
  by_cases hd : d - 32 < 8 * l.length
  · rw [flip_left hd] at hb e
    rw [List.take_append_of_le_length (by rw [Crc.flip_len]; exact Nat.le_refl _), List.take_of_length_le (by rw [Crc.flip_len]; exact Nat.le_refl _)] at hb
    rw [hb, e] at hc
    unfold enc at hc
    rw [Crc.flip_len, List.append_assoc] at hc
    have h3 := List.append_cancel_left (List.append_cancel_left hc)
    exact Crc.flip_ne hl hd (be4_inj h3).symm
  · obtain ⟨p, hp⟩ : ∃ p, d - 32 = 8 * l.length + p := ⟨d - 32 - 8 * l.length, by omega⟩
    rw [hp, flip_right] at hb e
    rw [List.take_left] at hb
    rw [hb, e] at hc
    unfold enc at hc
    rw [List.append_assoc] at hc
    exact flip_ne_self (by rw [show (be4 (Crc.sum [l])).length = 4 from rfl]; omega) (List.append_cancel_left (List.append_cancel_left hc))
/-- All frames, the k-th with one digit another one. -/
def odd (ls : List (List Nat)) (k d : Nat) : List (List Nat) := (ls.map enc).set k (Crc.flip (enc (ls.getD k [])) d)
theorem from_odd {ls : List (List Nat)} (h : ∀ l ∈ ls, err l = 0) (hb : ∀ l ∈ ls, ∀ x ∈ l, x < 256) {k d : Nat} (hk : k < ls.length) (h1 : 32 ≤ d) (h2 : d < 8 * ((ls.getD k []).length + 8)) :
    from_ (odd ls k d).flatten 0 = ((ls.map (fun l => (l, (0 : Int)))).set k ([], 72), (odd ls k d).flatten.length) := by
  have hm : ls.getD k [] ∈ ls := by
    rw [List.getD_eq_getElem?_getD, List.getElem?_eq_getElem hk]
    exact List.getElem_mem hk
  have hs := spoilt (h _ hm) (hb _ hm) h1 h2
  rw [from_wholes]
  · congr 1
    unfold odd
    rw [List.map_set, hs.2, List.map_map]
    congr 1
    apply List.map_congr_left
    intro l hl
    exact is_enc (h l hl)
  · intro f hf
    rcases List.mem_or_eq_of_mem_set hf with hf | rfl
    · obtain ⟨l, hl, rfl⟩ := List.mem_map.1 hf
      exact enc_whole (h l hl)
    · exact hs.1
/-- Where the k-th frame begins. -/
theorem odd_at (ls : List (List Nat)) (k d : Nat) (hk : k < ls.length) (h2 : d < 8 * ((ls.getD k []).length + 8)) : (odd ls k d).flatten = (flat ls).set ((flat (ls.take k)).length + d / 8) ((flat ls).getD ((flat (ls.take k)).length + d / 8) 0 ^^^ 2 ^ (d % 8)) := by
  have hsplit : flat ls = flat (ls.take k) ++ (enc (ls.getD k []) ++ flat (ls.drop (k + 1))) := by
    have e : ls = ls.take k ++ (ls.getD k [] :: ls.drop (k + 1)) := by
      have := List.take_append_drop k ls
      rw [List.drop_eq_getElem_cons hk] at this
      rw [List.getD_eq_getElem?_getD, List.getElem?_eq_getElem hk]
      exact this.symm
    have e2 : flat ls = flat (ls.take k ++ (ls.getD k [] :: ls.drop (k + 1))) := by rw [← e]
    rw [e2]
    unfold flat
    rw [List.flatMap_append, List.flatMap_cons]
  have hlen : d / 8 < (enc (ls.getD k [])).length := by rw [enc_len]; omega
  have ho : (odd ls k d).flatten = flat (ls.take k) ++ (Crc.flip (enc (ls.getD k [])) d ++ flat (ls.drop (k + 1))) := by
    unfold odd
    rw [List.set_eq_take_append_cons_drop, if_pos (by rw [List.length_map]; exact hk), List.flatten_append, List.flatten_cons, ← List.map_take, ← List.map_drop, ← flat_eq, ← flat_eq]
  rw [ho, hsplit]
  generalize flat (ls.take k) = P
  generalize flat (ls.drop (k + 1)) = Q
  generalize enc (ls.getD k []) = F at hlen
  have e := flip_right (a := P) (b := F ++ Q) (p := d)
  rw [flip_left (a := F) (b := Q) (p := d) (by omega)] at e
  rw [← e]
  unfold Crc.flip
  rw [show (8 * P.length + d) / 8 = P.length + d / 8 by omega, show (8 * P.length + d) % 8 = d % 8 by omega]
end Fr
end Go.Proofs.Ytnokbnobnhkmgaa
