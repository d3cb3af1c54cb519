/- A reader's texts, its place and its errors. -/
import Derived.Test.YtadcjllfabihbaaPackD
namespace Go.Proofs.Ytadcjllfabihbaa
open Go.ChangeShapes Go.WideShapes Go.ChangeAt Go.RowKit

def TextPost (w : World) (lo g : Nat) (l : List Nat) (f : Bool) (e : Ending) (w' : World) : Prop :=
  e = .returned (.string (textOf (Pk.ttaken f l))) ∧ Rd w' lo g (Pk.tleft f l) (Pk.tfails f l) ∧ w.grownBy w' (some g)
theorem Rd.back {w w' : World} {lo g : Nat} {l l' : List Nat} {f f' : Bool} {A : Option Addr} {c : Nat} (h : Rd w lo g l f) (h' : Rd w' lo g l' f') (hA : w.cell? ⟨g, 0, none⟩ = some (.slice A l.length c)) (hg : w.grownBy w' (some g)) :
    Rd (w'.setCell ⟨g, 0, none⟩ (.slice A l.length c)) lo g l f' := by
  have hlt := h.here
  obtain ⟨A', n, c', hb, hy, h1, h2, h3⟩ := h
  have e := (hb.cell 0).symm.trans hA
  simp at e
  obtain ⟨rfl, rfl, rfl⟩ := e
  obtain ⟨A2, n2, c2, hb2, -⟩ := h'
  refine ⟨_, _, _, hb2.set_ 0 _, hy.keepIn h3 (fun x o _ hx => ?_), h1, h2, h3⟩
  refine (World.cell?_of_block (a := ⟨x, o, none⟩) (Below.heap_setCell w' ⟨g, 0, none⟩ _ x (by show x ≠ g; omega))).trans ?_
  exact World.cell?_of_block (a := ⟨x, o, none⟩) (hg.block x (by omega) (fun e => by injection e with e; omega))
theorem tlen_lt (f : Bool) (l : List Nat) (h : ∀ x ∈ l, x < 256) : Pk.tlen f l < 65536 := Pk.taken_num_lt f l 2 h

set_option maxRecDepth 100000 in
theorem text_any (lo g : Nat) (l : List Nat) (f : Bool) (w : World) (hr : Rd w lo g l f) :
    Calls Try.prog 29 #[.pointer (some ⟨g, 0, none⟩)] w (TextPost w lo g l f) := by
  obtain ⟨A, c, c0, -, -, -, hy, hc, -⟩ := hr.cells
  have HR := Lib.hid hr
  have HC0 := Lib.hid c0
  have hm := tlen_lt f l hr.lt
  clear hr hy
  go_enter Try.func29, Try.ntmps29
  go_wp2_with fail
  refine (u16_any lo g l f w HR.out).mono ?_
  rintro e w1 ⟨rfl, hr1, hg1⟩
  rw [show Pk.num (Pk.taken f l 2) = Pk.tlen f l from rfl]
  have HT := Lib.hid (show Pk.tfails f l = Pk.fails (Pk.fails f l 2) (Pk.left f l 2) (Pk.tlen f l) from rfl)
  have hth : ∀ m, Pk.tlen f l = m → True := fun _ _ => trivial
  clear hth
  obtain ⟨m, hme⟩ : ∃ m, Pk.tlen f l = m := ⟨_, rfl⟩
  rw [hme] at hm ⊢
  have HME := Lib.hid hme
  clear hme c0
  go_wp2_with fail
  refine (take_any lo g m (Pk.left f l 2) (Pk.fails f l 2) w1 hr1 (by omega)).mono ?_
  rintro e w2 ⟨A2, n2, c2, rfl, hy2, hn2, hr2, hg2⟩
  have HG := Lib.hid (hg1.trans hg2)
  clear hr1 hg1 hg2
  obtain ⟨A3, c3, d0, d1, z0, z1, -⟩ := hr2.cells
  have HR2 := Lib.hid hr2
  rcases Bool.eq_false_or_eq_true (Pk.fails (Pk.fails f l 2) (Pk.left f l 2) m) with hF | hF
  · have hTF : Pk.tfails f l = true := by rw [HT.out, HME.out]; exact hF
    have HTF := Lib.hid hTF
    rw [Pk.taken_yes hF] at hy2
    rw [hF] at d1 hr2
    have hE := HR.out.back hr2 HC0.out HG.out
    have HE := Lib.hid hE
    have hcv := (conv_bytes (c := c2) (hy2.far (o := 0) (v := .slice A l.length c))).2.2
    clear hTF hF hr2 hE hy2
    go_wp2_with fail
    go_ret
    exact ⟨by rw [Pk.ttaken_yes HTF.out]; rfl, by rw [Pk.tleft_yes HTF.out, HTF.out]; exact HE.out, only_setCell HG.out _ _⟩
  · have hTF : Pk.tfails f l = false := by rw [HT.out, HME.out]; exact hF
    have HTF := Lib.hid hTF
    have h2 := (Pk.tfails_iff.1 hTF).1
    rw [Pk.taken_no hF, Pk.left_no h2] at hy2
    rw [Pk.left_no hF, hF, Pk.left_no h2, List.drop_drop] at hr2
    rw [hF] at d1
    have hcv := (conv_bytes (c := c2) hy2).2.2
    have HE := Lib.hid hr2
    have hS := Lib.hid (show Pk.ttaken f l = (l.drop 2).take m from by rw [Pk.ttaken_no hTF, HME.out])
    have hS2 := Lib.hid (show Pk.tleft f l = l.drop (2 + m) from by rw [Pk.tleft_no hTF, HME.out])
    clear hTF hF hr2 hy2 h2
    go_wp2_with fail
    go_ret
    exact ⟨by rw [hS.out]; rfl, by rw [hS2.out, HTF.out]; exact HE.out, HG.out⟩
theorem text_nil (w : World) : Calls Try.prog 29 #[.pointer none] w fun e w' => e = .returned (.string ⟨#[]⟩) ∧ w = w' := by
  go_enter Try.func29, Try.ntmps29
  go_wp2_with fail
  go_ret
  exact ⟨rfl, rfl⟩

theorem left_any (lo g : Nat) (l : List Nat) (f : Bool) (w : World) (hr : Rd w lo g l f) :
    Calls Try.prog 32 #[.pointer (some ⟨g, 0, none⟩)] w fun e w' => e = .returned (.int .i64 (l.length : Nat)) ∧ w = w' := by
  obtain ⟨A, c, c0, -⟩ := hr.cells
  clear hr
  go_enter Try.func32, Try.ntmps32
  go_wp2_with fail
  go_ret
  exact ⟨rfl, rfl⟩
theorem left_nil (w : World) : Calls Try.prog 32 #[.pointer none] w fun e w' => e = .returned (.int .i64 0) ∧ w = w' := by
  go_enter Try.func32, Try.ntmps32
  go_wp2_with fail
  go_ret
  exact ⟨rfl, rfl⟩
/-- What Err tells. -/
def errOf (f : Bool) : Int := if f = true then 20 else 0
theorem err_any (lo g : Nat) (l : List Nat) (f : Bool) (w : World) (hr : Rd w lo g l f) :
    Calls Try.prog 30 #[.pointer (some ⟨g, 0, none⟩)] w fun e w' => e = .returned (.int .i64 (errOf f)) ∧ w = w' := by
  obtain ⟨A, c, -, c1, -⟩ := hr.cells
  clear hr
  rcases Bool.eq_false_or_eq_true f with rfl | rfl
  · go_enter Try.func30, Try.ntmps30
    go_wp2_with fail
    go_ret
    exact ⟨rfl, rfl⟩
  · go_enter Try.func30, Try.ntmps30
    go_wp2_with fail
    go_ret
    exact ⟨rfl, rfl⟩
theorem err_nil (w : World) : Calls Try.prog 30 #[.pointer none] w fun e w' => e = .returned (.int .i64 1) ∧ w = w' := by
  go_enter Try.func30, Try.ntmps30
  go_wp2_with fail
  go_ret
  exact ⟨rfl, rfl⟩
/-- What Done tells. -/
def doneOf (f : Bool) (n : Nat) : Int := if f = true then 20 else if 0 < n then 21 else 0
theorem done_any (lo g : Nat) (l : List Nat) (f : Bool) (w : World) (hr : Rd w lo g l f) :
    Calls Try.prog 31 #[.pointer (some ⟨g, 0, none⟩)] w fun e w' => e = .returned (.int .i64 (doneOf f l.length)) ∧ w = w' := by
  obtain ⟨A, c, c0, -⟩ := hr.cells
  have HR := Lib.hid hr
  clear hr
  rcases Bool.eq_false_or_eq_true f with rfl | rfl
  · go_enter Try.func31, Try.ntmps31
    go_wp2_with fail
    refine (err_any lo g l true w HR.out).mono ?_
    rintro e w' ⟨rfl, rfl⟩
    rw [show errOf true = 20 from rfl]
    go_wp2_with fail
    go_ret
    exact ⟨rfl, rfl⟩
  · obtain ⟨n, hn⟩ : ∃ n, l.length = n := ⟨_, rfl⟩
    rw [hn] at c0 ⊢
    clear hn
    by_cases h0 : 0 < n
    · have HD := Lib.hid (show doneOf false n = 21 from by simp [doneOf, h0])
      go_enter Try.func31, Try.ntmps31
      go_wp2_with fail
      refine (err_any lo g l false w HR.out).mono ?_
      rintro e w' ⟨rfl, rfl⟩
      rw [show errOf false = 0 from rfl]
      go_wp2_with fail
      go_ret
      exact ⟨by rw [HD.out]; rfl, rfl⟩
    · obtain rfl : n = 0 := by omega
      go_enter Try.func31, Try.ntmps31
      go_wp2_with fail
      refine (err_any lo g l false w HR.out).mono ?_
      rintro e w' ⟨rfl, rfl⟩
      rw [show errOf false = 0 from rfl]
      go_wp2_with fail
      go_ret
      exact ⟨rfl, rfl⟩
theorem done_nil (w : World) : Calls Try.prog 31 #[.pointer none] w fun e w' => e = .returned (.int .i64 1) ∧ w = w' := by
  go_enter Try.func31, Try.ntmps31
  go_wp2_with fail
  refine (err_nil w).mono ?_
  rintro e w' ⟨rfl, rfl⟩
  go_wp2_with fail
  go_ret
  exact ⟨rfl, rfl⟩
end Go.Proofs.Ytadcjllfabihbaa
