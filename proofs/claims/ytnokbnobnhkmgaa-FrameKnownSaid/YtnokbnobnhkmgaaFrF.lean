/- Layer 7, the program: a stream is fed. -/
import Derived.Test.YtnokbnobnhkmgaaFrN
namespace Go.Proofs.Ytnokbnobnhkmgaa
open Go.ChangeShapes Go.WideShapes Go.ChangeAt Go.RowKit

/-- Bytes off the blocks H. -/
def BytesFar (w : World) (H : List Nat) (A : Option Addr) (n : Nat) (l : List Nat) : Prop := Bytes w w.heap.size A n l ∧ ∀ b off, A = some ⟨b, off, none⟩ → 0 < n → b ∉ H
/-- Rows of bytes off the blocks H. -/
def RowsFar (w : World) (H : List Nat) (A : Option Addr) (n : Nat) (ls : List (List Nat)) : Prop :=
  ls.length = n ∧ (0 < n → ∃ b off, A = some ⟨b, off, none⟩ ∧ b < w.heap.size ∧ b ∉ H ∧ ∀ i, i < n → ∃ a m c, w.cell? ⟨b, off + i, none⟩ = some (.slice a m c) ∧ BytesFar w H a m (ls.getD i []))
def StmP (w : World) (H : List Nat) (g : Nat) (l : List Nat) (d : Bool) (w' : World) : Prop := ∃ H', Mv w w' H H' ∧ Stm w' H' g l d
def StmB (w : World) (H : List Nat) (g : Nat) (l : List Nat) (d : Bool) (A : Option Addr) (n c : Nat) (b : List Nat) (w' : World) : Prop := ∃ H', Mv w w' H H' ∧ Stm w' H' g l d ∧ Off H' (.slice A n c) ∧ w'.ownsRow w.heap.size 5 1 (.slice A n c) n (u8s b)
theorem BytesFar.mv {w w' : World} {H H' : List Nat} {A : Option Addr} {n : Nat} {l : List Nat} (h : BytesFar w H A n l) (hm : Mv w w' H H') : Bytes w' w.heap.size A n l :=
  ⟨h.1.1, h.1.2.1, fun h0 => by
    obtain ⟨b, off, e, hb, hc⟩ := h.1.2.2 h0
    exact ⟨b, off, e, hb, fun i hi => (World.cell?_of_block (a := ⟨b, off + i, none⟩) (hm.2.1 b hb (h.2 b off e h0))).trans (hc i hi)⟩⟩
theorem Mv.set {w : World} {H : List Nat} {g : Nat} (h : g ∈ H) (o : Nat) (v : Value) : Mv w (w.setCell ⟨g, o, none⟩ v) H H :=
  ⟨(Below.refl 0 w).setCell (p := ⟨g, o, none⟩) (Nat.zero_le _) v, fun k _ hk => Below.heap_setCell w ⟨g, o, none⟩ v k (fun e => hk (by rw [e]; exact h)), fun _ h => .inl h⟩
/-- An append of which all is known. -/
theorem wpList_append_eq {P : Program} {w w' : World} {ops : Array Oper} {rest : List Oper} {o : Oper} {a : Act} {Q : Exit → Act → World → Prop} (hgd : o.guard = none) (s x : Operand) (t : TypeId)
    (hop : o.op = .call { callee := .builtin .append, args := #[s, x], argTypes := #[t, t] }) {v xv v' : Value} (hs : a.eval s = v) (hx : a.eval x = xv) (hrun : (Builtin.append_ #[t, t] o.type #[v, xv]).run P w = .ok v' w') (hK : wpList P ops Q rest (a.put o.dst v') w') :
    wpList P ops Q (o :: rest) a w := by
  refine wpList_plain hgd fun K hK' => ?_
  unfold Oper.wp
  simp [execOp, hop, resolve, invoke, builtin, hs, hx, hrun, Result.andThen]
  exact hK' _ _ hK
set_option maxRecDepth 100000 in
set_option maxHeartbeats 4000000 in
theorem fFeed_any (n c g : Nat) (A : Option Addr) (ls : List (List Nat)) (H l l' : List Nat) (d : Bool) (w : World) (hs : Stm w H g l d) (hr : RowsFar w H A n ls) (hn : n ≤ 8) (hl : l.length + ls.flatten.length ≤ 1000000) (hl' : l' = if d = true then [] else l ++ ls.flatten) : Calls Try.prog 25 #[.pointer (some ⟨g, 0, none⟩), .slice A n c] w fun e w' => e = .returned (.tuple #[]) ∧ StmP w H g l' d w' := by
  have hdc : w.cell? ⟨g, 2, none⟩ = some (.bool d) := by
    obtain ⟨_, _, A, n, c, t, K, hb, _⟩ := hs
    exact hb.cell 2
  have HD := Lib.hid (fDead_cell g d w hdc)
  have HS := Lib.hid (And.intro hs (And.intro hr hl'))
  clear hs hl' hdc hr
  cases d with
  | true =>
    go_enter Try.func25, Try.ntmps25
    go_wp2_with fail
    refine HD.out.mono ?_
    rintro e w1 ⟨rfl, rfl⟩
    go_wp2_with fail
    refine bodyPost_ret (results_none rfl _ _ _) rfl ⟨rfl, H, Mv.refl _ _, ?_⟩
    have h1 := HS.out.1
    rw [show l' = [] by rw [HS.out.2.2]; simp]
    rw [stm_dead h1] at h1
    exact h1
  | false =>
    go_enter Try.func25, Try.ntmps25
    go_wp2_with fail
    refine HD.out.mono ?_
    rintro e w1 ⟨rfl, rfl⟩
    go_wp2_with fail
    rename World => w
    go_loopw [10] (fun i wr => ∃ (j : Nat) (Hj : List Nat), j ≤ n ∧ i = .int .i64 (j : Int) ∧ Mv w wr H Hj ∧ Stm wr Hj g (l ++ (ls.take j).flatten) false) (fun i _ => n - (intOf i).toNat)
    case atStart => exact ⟨0, H, by omega, rfl, Mv.refl _ _, by simpa using HS.out.1⟩
    case round =>
      obtain ⟨j, Hj, hj, rfl, hmv, hst⟩ := hrel
      by_cases hlt : j < n
      · obtain ⟨b, off, rfl, hbs, hbH, hc⟩ := HS.out.2.1.2 (by omega)
        obtain ⟨a, m, c', hcell, hby⟩ := hc j hlt
        have d0 := (World.cell?_of_block (a := ⟨b, off + j, none⟩) (hmv.2.1 b hbs hbH)).trans hcell
        have hby' := hby.mv hmv
        obtain ⟨hgH, hlt1, A1, n1, c1, t, K, hb, hK, hl1, ht, hr1, -⟩ := hst
        have hstep := flat_step (ls := ls) (k := j) (by rw [HS.out.2.1.1]; exact hlt)
        have hle := flat_le ls (j + 1)
        have hm : (ls.getD j []).length = m := hby.1.1
        have hlen : (l ++ (ls.take j).flatten).length + m ≤ 1000000 := by
          rw [hstep, List.length_append] at hle
          rw [List.length_append]
          omega
        have hKl := kept_len hK hl1
        obtain ⟨A2, c2, w1, H1, hrun, hK2, hmv2, hgs, hgH1, hlt2⟩ := kept_append hK hgH hlt1 hby' (c2 := c') (by omega)
        have hb1 : Blk w1 g 85 #[.slice A1 n1 c1, .int .i64 (t : Int), .bool false] := hgs.trans hb
        have e0 := hb.cell 0
        have e1 := hb1.cell 0
        have f1 := hb1.frozen 0
        simp only [List.getElem?_toArray, List.getElem?_cons_zero] at e0 e1
        have i1 : (0 : Int) ≤ j := by omega
        have i2 : (j : Int) < n := by omega
        have HK := Lib.hid (And.intro hK2 (And.intro hmv2 (And.intro hmv (And.intro hb1 (And.intro hgH1 (And.intro hlt2 (And.intro hstep (And.intro hl1 (And.intro hr1 (And.intro ht (And.intro hKl (And.intro hK.2.1 hm))))))))))))
        have HRUN := Lib.hid hrun
        clear hK2 hmv2 hmv hb1 hgH1 hlt2 hstep hl1 hr1 hK hb hby hby' hcell hc hle hm hKl hrun
        go_wp2_with (at_builtin; refine wpList_append_eq rfl _ _ 24 rfl rfl rfl HRUN.out ?_)
        refine ⟨⟨j + 1, H1, by omega, by go_num, (HK.out.2.2.1.trans HK.out.2.1).trans (Mv.set HK.out.2.2.2.2.1 0 _), HK.out.2.2.2.2.1, fun k hk => by have := HK.out.2.2.2.2.2.1 k hk; simpa using this, A2, n1 + m, c2, t, K ++ ls.getD j [], HK.out.2.2.2.1.set_ 0 _, HK.out.1.keep (fun k _ hne => Below.heap_setCell w1 ⟨g, 0, none⟩ _ k hne), ?_, ?_, ?_, fun h => by cases h⟩, by simp [intOf]; omega⟩
        · rw [HK.out.2.2.2.2.2.2.1, ← List.append_assoc, HK.out.2.2.2.2.2.2.2.1, List.drop_append_of_le_length (by have := HK.out.2.2.2.2.2.2.2.2.2.1; have := HK.out.2.2.2.2.2.2.2.2.2.2.2.1; omega)]
        · have := HK.out.2.2.2.2.2.2.2.2.2.1; omega
        · refine HK.out.2.2.2.2.2.2.2.2.1.imp id (fun h => ?_)
          rw [HK.out.2.2.2.2.2.2.1, ← List.append_assoc, List.length_append]
          omega
      · obtain rfl : n = j := by omega
        have htk : ls.take n = ls := List.take_of_length_le (by rw [HS.out.2.1.1]; exact Nat.le_refl _)
        rw [htk] at hst
        have HF := Lib.hid (And.intro hmv hst)
        clear hmv hst htk
        go_wp2_with fail
        go_end0
        refine ⟨rfl, Hj, HF.out.1, ?_⟩
        rw [show l' = l ++ ls.flatten by rw [HS.out.2.2]; simp]
        exact HF.out.2
end Go.Proofs.Ytnokbnobnhkmgaa
