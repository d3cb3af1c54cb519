/- Layer 9, the program: parts, packed one behind the other; Put. -/
import Derived.Test.YtgailpljcobabaaDoorRqE
import Derived.Test.YtgailpljcobabaaDoorPk9
import Derived.Test.YtgailpljcobabaaDoorSlcs
namespace Go.Proofs.YtgailpljcobabaaDoor
open Go.ChangeShapes Go.WideShapes Go.ChangeAt Go.RowKit

theorem Tryd.info29 : (Tryd.prog.info? 29).map (fun i => (i.zero, i.size, i.bytes)) = some (some (.slice none 0 0), 1, 24) := by kernel_rfl
theorem own_blk {w : World} {base e s n g : Nat} {v : Value} {xs : List Value} (h : w.ownsRow base e s v n xs) (hg : v.ownBlock = some g) : ∃ cs, Blk w g e cs := by
  rcases h.2 with ⟨rfl, _⟩ | ⟨k, cap, cur, rfl, _, hh, _⟩
  · cases hg
  · have : k = g := by simpa [Value.ownBlock] using hg
    subst this
    exact ⟨cur, hh⟩
theorem blk_ne {w : World} {g g' : Nat} {t t' : TypeId} {cs cs' : Array Value} (h : Blk w g t cs) (h' : Blk w g' t' cs') (hne : t ≠ t') : g ≠ g' := fun e => by
  subst e
  unfold Blk at h h'
  rw [h] at h'
  injection h' with h'
  injection h' with _ h'
  exact hne h'
theorem own_off {w w' : World} {base e s n g : Nat} {v : Value} {xs : List Value} {t : TypeId} {cs : Array Value} (h : w.ownsRow base e s v n xs) (hg : w.grownBy w' (some g)) (hb : Blk w g t cs) (ht : e ≠ t) : w'.ownsRow base e s v n xs :=
  h.kept hg (by
    rcases hv : v.ownBlock with _ | k
    · exact .inl rfl
    · obtain ⟨ds, hk⟩ := own_blk h hv
      exact .inr (fun e => blk_ne hk hb ht (by injection e)))
theorem Slcs.off {w w' : World} {B g : Nat} {V : List Value} {L : List (List Nat)} {t : TypeId} {cs : Array Value} (h : Slcs w B V L) (hg : w.grownBy w' (some g)) (hb : Blk w g t cs) (ht : 5 ≠ t) : Slcs w' B V L :=
  ⟨h.1, fun i hi => by
    obtain ⟨a, m, c, h1, h2, h3⟩ := h.2 i hi
    exact ⟨a, m, c, h1, h2, own_off h3 hg hb ht⟩⟩
theorem Blk.off {w w' : World} {base e s n g : Nat} {v : Value} {xs : List Value} {t : TypeId} {cs : Array Value} (hb : Blk w g t cs) (h : w.ownsRow base e s v n xs) (hg : w.grownBy w' v.ownBlock) (ht : t ≠ e) : Blk w' g t cs :=
  (hg.block g hb.lt (fun e => by
    obtain ⟨ds, hk⟩ := own_blk h e.symm
    exact blk_ne hb hk ht rfl)).trans hb
theorem own_it {w w' : World} {base e s n g : Nat} {v : Value} {xs : List Value} {S : ByteArray} {p : Nat} (h : w.ownsRow base e s v n xs) (hg : w.grownBy w' (some g)) (hi : w.heap[g]? = some (.stringIter S p)) : w'.ownsRow base e s v n xs :=
  h.kept hg (by
    rcases hv : v.ownBlock with _ | k
    · exact .inl rfl
    · obtain ⟨ds, hk⟩ := own_blk h hv
      exact .inr (fun e => it_ne hi hk (by injection e)))
theorem grown_iter (w : World) (g : Nat) (s : ByteArray) (q : Nat) : w.grownBy (w.iterAt g s q) (some g) :=
  ⟨rfl, rfl, rfl, by show w.heap.size ≤ (w.heap.setIfInBounds g (.stringIter s q)).size; simp, fun k _ hk => by
    show (w.heap.setIfInBounds g (.stringIter s q))[k]? = _
    rw [Array.getElem?_setIfInBounds_ne (fun e => hk (by rw [e]))]⟩
theorem Its.own {w w' : World} {base e s n : Nat} {v : Value} {xs : List Value} (h : w.ownsRow base e s v n xs) (hg : w.grownBy w' v.ownBlock) : Its w w' := fun k S p hk => (hg.block k (it_lt hk) (fun e => by
  obtain ⟨ds, hb⟩ := own_blk h e.symm
  exact it_ne hk hb rfl)).trans hk
theorem Slcs.it {w w' : World} {B g : Nat} {V : List Value} {L : List (List Nat)} {S : ByteArray} {p : Nat} (h : Slcs w B V L) (hg : w.grownBy w' (some g)) (hi : w.heap[g]? = some (.stringIter S p)) : Slcs w' B V L :=
  ⟨h.1, fun i hi' => by
    obtain ⟨a, m, c, h1, h2, h3⟩ := h.2 i hi'
    exact ⟨a, m, c, h1, h2, own_it h3 hg hi⟩⟩
/-- All blocks but a putter's, and rows of slices of bytes, stay; iterators, too. -/
def Stay (w w' : World) : Prop := (∀ g t cs, t ≠ 56 → t ≠ 29 → Blk w g t cs → Blk w' g t cs) ∧ Its w w'
theorem Stay.trans {a b c : World} (h : Stay a b) (k : Stay b c) : Stay a c := ⟨fun g t cs h1 h2 hb => k.1 g t cs h1 h2 (h.1 g t cs h1 h2 hb), h.2.trans k.2⟩
theorem Stay.below {w w' : World} (h : Below w.heap.size w w') : Stay w w' := ⟨fun _ _ _ _ _ hb => hb.below h hb.lt, Its.below h⟩
/-- A putter at P has packed L so far. -/
def Putting (w0 W : World) (P : Nat) (L : List (List Nat)) : Prop :=
  ∃ A n c V, L.length = n ∧ Blk W P 56 #[.slice A n c] ∧ W.ownsRow w0.heap.size 29 1 (.slice A n c) n V ∧ Slcs W w0.heap.size V L ∧ Below w0.heap.size w0 W ∧ w0.heap.size ≤ P
theorem Putting.below {w0 W W' : World} {P : Nat} {L : List (List Nat)} (h : Putting w0 W P L) (b : Below W.heap.size W W') : Putting w0 W' P L := by
  obtain ⟨A, n, c, V, h1, h2, h3, h4, h5, h6⟩ := h
  exact ⟨A, n, c, V, h1, h2.below b h2.lt, own_below h3 b, h4.below b, below_next h5 b, h6⟩
theorem Putting.low {w0 W : World} {P : Nat} {L : List (List Nat)} (h : Putting w0 W P L) : Below w0.heap.size w0 W := by
  obtain ⟨A, n, c, V, h1, h2, h3, h4, h5, h6⟩ := h
  exact h5
theorem grown_set {w : World} {g : Nat} (o : Nat) (u : Value) : w.grownBy (w.setCell ⟨g, o, none⟩ u) (some g) := only_setCell ⟨rfl, rfl, rfl, Nat.le_refl _, fun _ _ _ => rfl⟩ o u
set_option maxRecDepth 100000 in
set_option maxHeartbeats 2000000 in
theorem add_any (w0 W : World) (P m c : Nat) (a : Option Addr) (l : List Nat) (L : List (List Nat)) (h : Putting w0 W P L) (ho : W.ownsRow w0.heap.size 5 1 (.slice a m c) m (u8s l)) (hm : m ≤ 1000000) (hL : L.length ≤ 1000000) :
    Calls Tryd.prog 27 #[.pointer (some ⟨P, 0, none⟩), .slice a m c] W fun e W' => e = .returned (.tuple #[]) ∧ Putting w0 W' P (L ++ [l]) ∧ Stay W W' := by
  obtain ⟨i0, hi, hz0, hz1, hz2⟩ := info_parts Tryd.info29
  have HI := Lib.hid (And.intro hi (And.intro hz0 (And.intro hz1 hz2)))
  clear hi hz0 hz1 hz2
  obtain ⟨A, n, c0, V, hn, hP, hown, hsl, hbel, hw0⟩ := h
  have hnL : n ≤ 1000000 := by omega
  have hp0 := hP.cell 0
  have b1 : Below W.heap.size W (W.alloc (.cells #[.slice a m c] 29)) := (Below.refl _ _).alloc (Nat.le_refl _) _
  have H := Lib.hid (And.intro hn (And.intro (hP.below b1 hP.lt) (And.intro (own_below hown b1) (And.intro ((hsl.snoc ho hm).below b1) (And.intro (below_next hbel b1) hw0)))))
  have HS := Lib.hid (Stay.below b1)
  have HZ : W.heap.size ≥ w0.heap.size := hbel.size
  clear hn hP hown hsl hbel b1 ho hL
  go_enter Tryd.func27, Tryd.ntmps27
  go_wp2_with (at_builtin; refine wpList_append_own _ rfl _ _ 54 rfl w0.heap.size 29 i0 (.slice none 0 0) 1 24 Tryd.underlying54 HI.out.1 HI.out.2.1 HI.out.2.2.1 HI.out.2.2.2 rfl (by decide) _ n _ rfl H.out.2.2.1 ⟨W.heap.size, 0, none⟩ 1 1 [.slice a m c] rfl rfl (one_cell W _ _) (by simp [Value.oneCell']) (by unfold maxLen; omega) (by omega) (by simp; omega) ?_; intro v' w2 hown hgrow _; obtain ⟨A2, c2, rfl⟩ := own_slice hown; have K2 := Blk.off H.out.2.1 H.out.2.2.1 hgrow (by decide); have K2c := K2.cell 0; have K2f := K2.frozen 0)
  have S2 := H.out.2.2.2.1.grown H.out.2.2.1 (by decide) hgrow
  have B2 : Below w0.heap.size w0 w2 := H.out.2.2.2.2.1.grown hgrow (by simp; omega) (fun k hk => (H.out.2.2.1.lt k hk).1)
  have HS2 : Hid (Stay W w2) := Lib.hid (HS.out.trans ⟨fun g t cs _ h2 hb => Blk.off hb H.out.2.2.1 hgrow h2, Its.own H.out.2.2.1 hgrow⟩)
  go_end0
  have gs := grown_set (w := w2) (g := P) 0 (.slice A2 (n + 1) c2)
  refine ⟨rfl, ⟨A2, n + 1, c2, _, by simp [H.out.1], K2.set_ 0 _, own_off hown gs K2 (by decide), S2.off gs K2 (by decide), B2.setCell H.out.2.2.2.2.2 _, H.out.2.2.2.2.2⟩, HS2.out.trans ⟨fun g t cs h1 _ hb => hb.far (fun e => blk_ne hb K2 h1 e.symm) _, its_set K2⟩⟩
theorem Putting.it {w0 W : World} {P g : Nat} {L : List (List Nat)} {S : ByteArray} {p q : Nat} (hg : w0.heap.size ≤ g) (h : Putting w0 W P L) (hi : W.heap[g]? = some (.stringIter S p)) : Putting w0 (W.iterAt g S q) P L := by
  obtain ⟨A, n, c, V, h1, h2, h3, h4, h5, h6⟩ := h
  have gr := grown_iter W g S q
  refine ⟨A, n, c, V, h1, (gr.block P h2.lt (fun e => it_ne hi h2 (by injection e))).trans h2, own_it h3 gr hi, h4.it gr hi, ?_, h6⟩
  exact h5.trans ⟨gr.os, gr.tape, gr.output, gr.size, fun k hk => gr.block k (by have := h5.size; omega) (fun e => by injection e with e; omega)⟩
/-- A call that packs the chunk. -/
def PutP (w0 W : World) (P : Nat) (L : List (List Nat)) (e : Ending) (W' : World) : Prop := e = .returned (.tuple #[]) ∧ Putting w0 W' P L ∧ Stay W W'
theorem PutP.add {w0 W w1 W' : World} {P : Nat} {L : List (List Nat)} {e : Ending} (h : Stay W w1) (h2 : PutP w0 w1 P L e W') : PutP w0 W P L e W' := ⟨h2.1, h2.2.1, h.trans h2.2.2⟩
theorem add_put {w0 W w1 : World} {P m c : Nat} {a : Option Addr} {l : List Nat} {L : List (List Nat)} (h : Putting w0 W P L) (b : Below W.heap.size W w1) (ho : w1.ownsRow W.heap.size 5 1 (.slice a m c) m (u8s l)) (hm : m ≤ 1000000) (hL : L.length ≤ 1000000) :
    Calls Tryd.prog 27 #[.pointer (some ⟨P, 0, none⟩), .slice a m c] w1 (PutP w0 W P (L ++ [l])) :=
  (add_any w0 w1 P m c a l L (h.below b) (own_lower ho h.low.size) hm hL).mono fun _ _ hp => PutP.add (Stay.below b) hp
set_option maxRecDepth 100000 in
theorem put_u8 (w0 W : World) (P R i : Nat) (n : Nat) (L : List (List Nat)) (h : Putting w0 W P L) (hL : L.length ≤ 900000) (hc : W.cell? ⟨R, i, none⟩ = some (.int .u8 (n : Int))) (hn : n < 256) :
    Calls Tryd.prog 86 #[.pointer (some ⟨P, 0, none⟩), .pointer (some ⟨R, i, none⟩)] W (PutP w0 W P (L ++ [Pk.be 1 n])) := by
  have H := Lib.hid h
  clear h
  go_enter Tryd.func86, Tryd.ntmps86
  go_wp2_with fail
  refine (put8_any _ n _ rfl hn).mono ?_
  rintro e w1 ⟨a, c, rfl, ho, b⟩
  have H1 := Lib.hid (add_put H.out b ho (by omega) (by omega))
  clear ho b
  go_wp2_with fail
  refine H1.out.mono ?_
  rintro e w2 hp
  obtain rfl := hp.1
  have HP := Lib.hid hp
  clear hp
  go_wp2_with fail
  go_end0
  exact HP.out
set_option maxRecDepth 100000 in
theorem put_u16 (w0 W : World) (P R i : Nat) (n : Nat) (L : List (List Nat)) (h : Putting w0 W P L) (hL : L.length ≤ 900000) (hc : W.cell? ⟨R, i, none⟩ = some (.int .u16 (n : Int))) (hn : n < 65536) :
    Calls Tryd.prog 84 #[.pointer (some ⟨P, 0, none⟩), .pointer (some ⟨R, i, none⟩)] W (PutP w0 W P (L ++ [Pk.be 2 n])) := by
  have H := Lib.hid h
  clear h
  go_enter Tryd.func84, Tryd.ntmps84
  go_wp2_with fail
  refine (put16_any _ n _ rfl hn).mono ?_
  rintro e w1 ⟨a, c, rfl, ho, b⟩
  have H1 := Lib.hid (add_put H.out b ho (by omega) (by omega))
  clear ho b
  go_wp2_with fail
  refine H1.out.mono ?_
  rintro e w2 hp
  obtain rfl := hp.1
  have HP := Lib.hid hp
  clear hp
  go_wp2_with fail
  go_end0
  exact HP.out
set_option maxRecDepth 100000 in
theorem put_u64 (w0 W : World) (P R i : Nat) (n : Nat) (L : List (List Nat)) (h : Putting w0 W P L) (hL : L.length ≤ 900000) (hc : W.cell? ⟨R, i, none⟩ = some (.int .u64 (n : Int))) (hn : n < 18446744073709551616) :
    Calls Tryd.prog 85 #[.pointer (some ⟨P, 0, none⟩), .pointer (some ⟨R, i, none⟩)] W (PutP w0 W P (L ++ [Pk.be 8 n])) := by
  have H := Lib.hid h
  clear h
  go_enter Tryd.func85, Tryd.ntmps85
  go_wp2_with fail
  refine (put64_any _ n _ rfl hn).mono ?_
  rintro e w1 ⟨a, c, rfl, ho, b⟩
  have H1 := Lib.hid (add_put H.out b ho (by omega) (by omega))
  clear ho b
  go_wp2_with fail
  refine H1.out.mono ?_
  rintro e w2 hp
  obtain rfl := hp.1
  have HP := Lib.hid hp
  clear hp
  go_wp2_with fail
  go_end0
  exact HP.out
set_option maxRecDepth 100000 in
theorem put_whole (w0 W : World) (P R i : Nat) (n : Int) (L : List (List Nat)) (h : Putting w0 W P L) (hL : L.length ≤ 900000) (hc : W.cell? ⟨R, i, none⟩ = some (.int .i64 n))  :
    Calls Tryd.prog 87 #[.pointer (some ⟨P, 0, none⟩), .pointer (some ⟨R, i, none⟩)] W (PutP w0 W P (L ++ [Pk.be 8 (Rq.u n)])) := by
  have H := Lib.hid h
  clear h
  go_enter Tryd.func87, Tryd.ntmps87
  go_wp2_with fail
  refine (putInt_any n (Rq.u n) _ (Rq.u_eq _) (Rq.u_lt _)).mono ?_
  rintro e w1 ⟨a, c, rfl, ho, b⟩
  have H1 := Lib.hid (add_put H.out b ho (by omega) (by omega))
  clear ho b
  go_wp2_with fail
  refine H1.out.mono ?_
  rintro e w2 hp
  obtain rfl := hp.1
  have HP := Lib.hid hp
  clear hp
  go_wp2_with fail
  go_end0
  exact HP.out
set_option maxRecDepth 100000 in
theorem put_text (w0 W : World) (P R i : Nat) (n : ByteArray) (L : List (List Nat)) (h : Putting w0 W P L) (hL : L.length ≤ 900000) (hc : W.cell? ⟨R, i, none⟩ = some (.string n)) (hn : n.size ≤ 65535) :
    Calls Tryd.prog 83 #[.pointer (some ⟨P, 0, none⟩), .pointer (some ⟨R, i, none⟩)] W (PutP w0 W P (L ++ [Pk.tx (nums n)])) := by
  have H := Lib.hid h
  clear h
  go_enter Tryd.func83, Tryd.ntmps83
  go_wp2_with fail
  refine (putText_any n _ hn).mono ?_
  rintro e w1 ⟨a, c, rfl, ho, b⟩
  have H1 := Lib.hid (add_put H.out b ho (by omega) (by omega))
  clear ho b
  go_wp2_with fail
  refine H1.out.mono ?_
  rintro e w2 hp
  obtain rfl := hp.1
  have HP := Lib.hid hp
  clear hp
  go_wp2_with fail
  go_end0
  exact HP.out
def putF (i : Nat) : FuncId := if i = 2 then 86 else if i = 3 then 84 else if i = 4 then 85 else if i = 5 then 85 else if i = 6 then 86 else if i = 7 then 83 else if i = 8 then 83 else 87
theorem put_visitor (P : Nat) : Visitor 61 (.pointer (some ⟨P, 0, none⟩)) (.pointer (some ⟨P, 0, none⟩)) putF where
  u8 i hi := by
    rcases hi with rfl | rfl <;> exact ⟨fun _ => by kernel_rfl, fun _ _ => by kernel_rfl, fun _ => by kernel_rfl⟩
  u16 := ⟨fun _ => by kernel_rfl, fun _ _ => by kernel_rfl, fun _ => by kernel_rfl⟩
  u64 i hi := by
    rcases hi with rfl | rfl <;> exact ⟨fun _ => by kernel_rfl, fun _ _ => by kernel_rfl, fun _ => by kernel_rfl⟩
  text i hi := by
    rcases hi with rfl | rfl <;> exact ⟨fun _ => by kernel_rfl, fun _ _ => by kernel_rfl, fun _ => by kernel_rfl⟩
  whole i hi := by
    rcases hi with rfl | rfl <;> exact ⟨fun _ => by kernel_rfl, fun _ _ => by kernel_rfl, fun _ => by kernel_rfl⟩
theorem Rq.V.cells_at (x : Rq.V) : x.cells[2]? = some (.int .u8 (x.pg : Int)) ∧ x.cells[3]? = some (.int .u16 (x.du : Int)) ∧ x.cells[4]? = some (.int .u64 (x.at_ : Int)) ∧ x.cells[5]? = some (.int .u64 (x.le : Int)) ∧ x.cells[6]? = some (.int .u8 (x.so : Int)) ∧ x.cells[7]? = some (.string x.ky) ∧ x.cells[8]? = some (.string x.to) ∧ x.cells[9]? = some (.int .i64 x.lo) ∧ x.cells[10]? = some (.int .i64 x.hi) := ⟨rfl, rfl, rfl, rfl, rfl, rfl, rfl, rfl, rfl⟩
theorem put_part (w0 W : World) (P R i : Nat) (x : Rq.V) (L : List (List Nat)) (h : Putting w0 W P L) (hL : L.length ≤ 800000) (hb : Blk W R 26 x.cells) (ok : x.ok) (hk : x.ky.size ≤ 65535) (ht : x.to.size ≤ 65535) (hi : 2 ≤ i ∧ i ≤ 10) :
    Calls Tryd.prog (putF i) #[.pointer (some ⟨P, 0, none⟩), .pointer (some ⟨R, i, none⟩)] W (PutP w0 W P (L ++ [x.enc i])) := by
  obtain ⟨c2, c3, c4, c5, c6, c7, c8, c9, c10⟩ := x.cells_at
  obtain ⟨-, -, o2, o3, o4, o5, o6, -, -⟩ := ok
  rcases Rq.field_cases hi with rfl | rfl | rfl | rfl | rfl | rfl | rfl | rfl | rfl
  · exact put_u8 w0 W P R 2 x.pg L h (by omega) ((hb.cell 2).trans c2) o2
  · exact put_u16 w0 W P R 3 x.du L h (by omega) ((hb.cell 3).trans c3) o3
  · exact put_u64 w0 W P R 4 x.at_ L h (by omega) ((hb.cell 4).trans c4) o4
  · exact put_u64 w0 W P R 5 x.le L h (by omega) ((hb.cell 5).trans c5) o5
  · exact put_u8 w0 W P R 6 x.so L h (by omega) ((hb.cell 6).trans c6) o6
  · exact put_text w0 W P R 7 x.ky L h (by omega) ((hb.cell 7).trans c7) hk
  · exact put_text w0 W P R 8 x.to L h (by omega) ((hb.cell 8).trans c8) ht
  · exact put_whole w0 W P R 9 x.lo L h (by omega) ((hb.cell 9).trans c9)
  · exact put_whole w0 W P R 10 x.hi L h (by omega) ((hb.cell 10).trans c10)
theorem put_steps (w0 : World) (P R : Nat) (x : Rq.V) (L : List (List Nat)) (hL : L.length ≤ 100) (ok : x.ok) (hk : x.ky.size ≤ 65535) (ht : x.to.size ≤ 65535) :
    Steps w0.heap.size R (.pointer (some ⟨P, 0, none⟩)) putF (fun l wr => Putting w0 wr P (L ++ l.map x.enc) ∧ Blk wr R 26 x.cells) where
  below _ _ _ h b := ⟨h.1.below b, h.2.below b h.2.lt⟩
  iter _ wr g s _ q hg h hi := ⟨h.1.it hg hi, ((grown_iter wr g s q).block R h.2.lt (fun e => it_ne hi h.2 (by injection e))).trans h.2⟩
  step l i wr hl hi h := by
    refine (put_part w0 wr P R i x (L ++ l.map x.enc) h.1 (by rw [List.length_append, List.length_map]; omega) h.2 ok hk ht hi).mono ?_
    rintro e w' ⟨rfl, h1, h2⟩
    refine ⟨rfl, ⟨?_, h2.1 _ _ _ (by decide) (by decide) h.2⟩, h2.2⟩
    rw [List.map_append, ← List.append_assoc]
    exact h1
/-- What Put answers. -/
def PutR (w : World) (l : List Nat) (r : Int) (e : Ending) (w' : World) : Prop := ∃ A c, e = .returned (.tuple #[.slice A l.length c, .int .i64 r]) ∧ w'.ownsRow w.heap.size 5 1 (.slice A l.length c) l.length (u8s l) ∧ Below w.heap.size w w'
theorem Putting.rows {w0 W : World} {P : Nat} {L : List (List Nat)} (h : Putting w0 W P L) (hl : ∀ l ∈ L, ∀ x ∈ l, x < 256) : ∃ A n c, L.length = n ∧ Blk W P 56 #[.slice A n c] ∧ RowsOf W W.heap.size A n L := by
  obtain ⟨A, n, c, V, h1, h2, h3, h4, h5, h6⟩ := h
  exact ⟨A, n, c, h1, h2, h4.rows h3 hl⟩
theorem join9 (n c B : Nat) (A : Option Addr) (ls : List (List Nat)) (l : List Nat) (w : World) (hl : ls.flatten = l) (hr : RowsOf w B A n ls) (hB : B ≤ w.heap.size) (hn : n ≤ 1000000) (h1 : l.length ≤ 1000000) : Calls Tryd.prog 31 #[.slice A n c] w (OwnPost w l.length l) := by
  subst hl
  exact join_any n c B A ls w hr hB hn h1
set_option maxRecDepth 100000 in
set_option maxHeartbeats 4000000 in
theorem pPut9_any (x : Rq.V) (w : World) (hV : Vars w) (ok : x.ok) :
    Calls Tryd.prog 11 #[x.val] w (PutR w x.putB x.putE) := by
  have S0 := (Held.start w).new x.cells 26
  have HS := Lib.hid S0
  have CR : Hid (∀ W, Below w.heap.size w W → Calls Tryd.prog 14 #[x.val] W fun e w' => e = .returned (.bool x.right) ∧ Below W.heap.size W w') := Lib.hid fun W hW => pRight9_any x W (hV.next hW) ok.1
  have RC : Hid (∀ W, Held w W [(w.heap.size, 26, x.cells)] → ReqCells W w.heap.size x) := Lib.hid fun W hW => (req_cells hW.top).1
  cases hr : x.right
  · have e1 : x.putB = [] := by unfold Rq.V.putB; rw [hr]; rfl
    have e2 : x.putE = 81 := by unfold Rq.V.putE; rw [hr]; rfl
    rw [e1, e2]
    rw [hr] at CR
    obtain ⟨r0, r1, r2, r3, r4, r5, r6, r7, r8, r9, r10⟩ := RC.out _ S0
    clear e1 e2 S0 ok hr hV
    obtain ⟨k, id, pg, du, a, l, s, ky, to, lo, hi⟩ := x
    unfold Rq.V.val ReqCells at *
    unfold Rq.V.cells at *
    dsimp only at *
    go_enter Tryd.func11, Tryd.ntmps11
    go_wp2_with fail
    refine (CR.out _ HS.out.1).mono ?_
    rintro e w1 ⟨rfl, p1⟩
    have H1 := Lib.hid (HS.out.step p1)
    clear p1
    go_wp2_with fail
    go_ret2
    exact ⟨none, 0, rfl, own_nil _ _ _ _, H1.out.1⟩
  · have e1 : x.putB = x.bytes := by unfold Rq.V.putB; rw [hr]; rfl
    have e2 : x.putE = 0 := by unfold Rq.V.putE; rw [hr]; rfl
    rw [e1, e2]
    obtain ⟨hk1, hk2⟩ := Rq.V.right_keys hr
    obtain ⟨hlen, -⟩ := Rq.V.bytes_le hr
    have hfl : x.chunks.flatten = x.bytes := rfl
    have hclt := x.chunks_lt
    have hcl : x.chunks.length ≤ 100 := by
      unfold Rq.V.chunks
      have := Rq.fparts_len x.k
      simp
      omega
    rw [hr] at CR
    have hk0 := ok.1
    have hid0 := ok.2.1
    have CV : Hid (∀ W P, Putting w W P [Pk.be 1 x.k, Pk.be 4 x.id] → Blk W w.heap.size 26 x.cells → Calls Tryd.prog 30 #[.pointer (some ⟨w.heap.size, 0, none⟩), .iface 61 (.pointer (some ⟨P, 0, none⟩))] W fun e W' => e = .returned (.tuple #[]) ∧ Putting w W' P x.chunks) := Lib.hid fun W P hP hb =>
      (visit_any w.heap.size w.heap.size _ x.k _ _ putF _ (put_steps w P w.heap.size x [Pk.be 1 x.k, Pk.be 4 x.id] (by simp) ok (by omega) (by omega)) (put_visitor P) W (hV.next hP.low) hk0 hP.low.size (hb.cell 0) ⟨by rw [List.map_nil, List.append_nil]; exact hP, hb⟩).mono fun _ _ h => ⟨h.1, h.2.1⟩
    obtain ⟨L, hL⟩ : ∃ L, x.chunks = L := ⟨_, rfl⟩
    obtain ⟨bs, hbs⟩ : ∃ bs, x.bytes = bs := ⟨_, rfl⟩
    rw [hL] at CV hfl hclt hcl
    rw [hbs] at hfl hlen ⊢
    have HF := Lib.hid (And.intro hfl (And.intro hclt (And.intro hlen hcl)))
    clear e1 e2 S0 ok hr hk1 hk2 hlen hfl hclt hL hbs hcl hV
    obtain ⟨k, id, pg, du, a, l, s, ky, to, lo, hi⟩ := x
    unfold Rq.V.val ReqCells at *
    unfold Rq.V.cells at *
    dsimp only at *
    obtain ⟨r0, r1, r2, r3, r4, r5, r6, r7, r8, r9, r10⟩ := RC.out _ HS.out
    go_enter Tryd.func11, Tryd.ntmps11
    go_wp2_with fail
    refine (CR.out _ HS.out.1).mono ?_
    rintro e w1 ⟨rfl, p1⟩
    have H1 := HS.out.step p1
    have P1 : Putting w (w1.alloc (.cells #[.slice none 0 0] 56)) w1.heap.size [] := ⟨none, 0, 0, [], rfl, Blk.new _ _ _, own_nil _ _ _ _, Slcs.nil _ _, H1.1.alloc H1.1.size _, H1.1.size⟩
    have H2 := H1.new #[.slice none 0 0] 56
    clear r0 r1 r2 r3 r4 r5 r6 r7 r8 r9 r10
    obtain ⟨d0, d1, -⟩ := RC.out _ ⟨H2.1, fun y hy => H2.2 y (List.mem_cons_of_mem _ hy)⟩
    have H3 := Lib.hid (And.intro P1 (H2.2 _ (List.mem_cons_of_mem _ (List.mem_singleton_self _))))
    clear p1 H1 P1 H2
    go_wp2_with fail
    clear d0 d1
    refine (put8_any _ k _ rfl hk0).mono ?_
    rintro e w2 ⟨a, c2, rfl, ho, b⟩
    have H4 := Lib.hid (And.intro (add_put H3.out.1 b ho (by omega) (by simp)) H3.out.2)
    clear ho b
    go_wp2_with fail
    refine H4.out.1.mono ?_
    rintro e w3 hp
    obtain rfl := hp.1
    have K3 := hp.2.2.1 _ _ _ (by decide) (by decide) H4.out.2
    have k1 := K3.cell 1
    have H5 := Lib.hid (And.intro hp.2.1 K3)
    clear hp K3
    go_wp2_with fail
    clear k1
    refine (put32_any _ id _ rfl hid0).mono ?_
    rintro e w4 ⟨a, c4, rfl, ho, b⟩
    have H6 := Lib.hid (And.intro (add_put H5.out.1 b ho (by omega) (by simp)) H5.out.2)
    clear ho b
    go_wp2_with fail
    refine H6.out.1.mono ?_
    rintro e w5 hp
    obtain rfl := hp.1
    have K5 := hp.2.2.1 _ _ _ (by decide) (by decide) H6.out.2
    have H7 := Lib.hid (And.intro hp.2.1 K5)
    clear hp K5
    go_wp2_with fail
    refine (CV.out _ _ H7.out.1 H7.out.2).mono ?_
    rintro e w6 ⟨rfl, hp⟩
    obtain ⟨A6, n6, c6, hn6, hb6, hr6⟩ := hp.rows HF.out.2.1
    have k0 := hb6.cell 0
    have H8 := Lib.hid (And.intro hp (And.intro hn6 hr6))
    clear hp hn6 hb6 hr6
    go_wp2_with fail
    clear k0
    refine (join9 n6 c6 _ A6 L bs _ HF.out.1 H8.out.2.2 (Nat.le_refl _) (by have := H8.out.2.1; have := HF.out.2.2.2; omega) (by have := HF.out.2.2.1; omega)).mono ?_
    rintro e w7 ⟨A7, c7, rfl, o7, b7⟩
    have H9 := Lib.hid (And.intro (own_lower o7 H8.out.1.low.size) (below_next H8.out.1.low b7))
    clear o7 b7
    go_wp2_with fail
    go_ret2
    exact ⟨_, _, rfl, H9.out.1, H9.out.2⟩
end Go.Proofs.YtgailpljcobabaaDoor
