/- Layer 8, the program: a reply, packed. -/
import Derived.Test.YtognlgklepgemaaGreatRpX
import Derived.Test.YtognlgklepgemaaGreatRpR
import Derived.Test.YtognlgklepgemaaGreatRpP
namespace Go.Proofs.YtognlgklepgemaaGreat
open Go.ChangeShapes Go.WideShapes Go.ChangeAt Go.RowKit

def putF (p : Nat) : FuncId := if p = 0 then 102 else if p = 1 then 103 else if p = 8 then 106 else if p = 9 then 105 else 104
theorem put_visitor (P : Nat) : Visitor 83 (.pointer (some ⟨P, 0, none⟩)) (.pointer (some ⟨P, 0, none⟩)) putF where
  code := ⟨fun _ => by kernel_rfl, fun _ _ => by kernel_rfl, fun _ => by kernel_rfl⟩
  flag := ⟨fun _ => by kernel_rfl, fun _ _ => by kernel_rfl, fun _ => by kernel_rfl⟩
  rows := ⟨fun _ => by kernel_rfl, fun _ _ => by kernel_rfl, fun _ => by kernel_rfl⟩
  panes := ⟨fun _ => by kernel_rfl, fun _ _ => by kernel_rfl, fun _ => by kernel_rfl⟩
  number p h1 h2 := by
    have e : putF p = 104 := by
      unfold putF
      rw [if_neg (by omega), if_neg (by omega), if_neg (by omega), if_neg (by omega)]
    rw [e]
    exact ⟨fun _ => by kernel_rfl, fun _ _ => by kernel_rfl, fun _ => by kernel_rfl⟩
/-- A part's pieces. -/
def Rp.V.chunk (x : Rp.V) (rows : List Rw) (gone : List Pn) (p : Nat) : List (List Nat) :=
  if p = 0 then [Pk.be 2 x.code] else if p = 1 then [Pk.be 1 (if x.last then 1 else 0)] else if p = 8 then Pk.be 1 (x.n % 256) :: rows.flatMap Rp.crow else if p = 9 then Pk.be 1 (x.m % 256) :: gone.flatMap Rp.cpane else [Pk.be 8 (x.long (Rp.lett p))]
theorem be_one (n : Nat) (h : n < 256) : Pk.be 1 n = [n] := by
  simp [Pk.be]
  omega
theorem flatMap_flat {α : Type} (f : α → List (List Nat)) (g : α → List Nat) (h : ∀ a, (f a).flatten = g a) (l : List α) : (l.flatMap f).flatten = l.flatMap g := by
  induction l with
  | nil => rfl
  | cons a l ih => rw [List.flatMap_cons, List.flatten_append, h, ih, List.flatMap_cons]
theorem Rp.cpane_flat (p : Pn) : (Rp.cpane p).flatten = Rp.pane p := by simp [Rp.cpane, Rp.pane]
theorem Rp.crow_flat (r : Rw) : (Rp.crow r).flatten = Rp.row r := by simp [Rp.crow, Rp.cagg, Rp.row, Rp.agg, Rp.cpane_flat]
theorem Rp.chunk_flat (x : Rp.V) (rows : List Rw) (gone : List Pn) (p : Nat) (hp : p < 10) : (x.chunk rows gone p).flatten = x.part rows gone (Rp.lett p) := by
  match p, hp with
  | 0, _ => simp [Rp.V.chunk, Rp.V.part, Rp.lett]
  | 1, _ =>
    have : (Pk.be 1 (if x.last then 1 else 0)) = [if x.last then 1 else 0] := be_one _ (by split <;> omega)
    simp [Rp.V.chunk, Rp.V.part, Rp.lett, this]
  | 2, _ => simp [Rp.V.chunk, Rp.V.part, Rp.lett]
  | 3, _ => simp [Rp.V.chunk, Rp.V.part, Rp.lett]
  | 4, _ => simp [Rp.V.chunk, Rp.V.part, Rp.lett]
  | 5, _ => simp [Rp.V.chunk, Rp.V.part, Rp.lett]
  | 6, _ => simp [Rp.V.chunk, Rp.V.part, Rp.lett]
  | 7, _ => simp [Rp.V.chunk, Rp.V.part, Rp.lett]
  | 8, _ =>
    have : Pk.be 1 (x.n % 256) = [x.n % 256] := be_one _ (Nat.mod_lt _ (by omega))
    simp [Rp.V.chunk, Rp.V.part, Rp.lett, this, flatMap_flat Rp.crow Rp.row Rp.crow_flat]
  | 9, _ =>
    have : Pk.be 1 (x.m % 256) = [x.m % 256] := be_one _ (Nat.mod_lt _ (by omega))
    simp [Rp.V.chunk, Rp.V.part, Rp.lett, this, flatMap_flat Rp.cpane Rp.pane Rp.cpane_flat]
/-- All pieces of a reply. -/
def Rp.V.chunks (x : Rp.V) (rows : List Rw) (gone : List Pn) : List (List Nat) := Pk.be 1 x.k :: Pk.be 4 x.id :: (Rp.pparts x.k).flatMap (x.chunk rows gone)
theorem flatMap_flat_mem {α : Type} (f : α → List (List Nat)) (g : α → List Nat) (l : List α) (h : ∀ a ∈ l, (f a).flatten = g a) : (l.flatMap f).flatten = l.flatMap g := by
  induction l with
  | nil => rfl
  | cons a l ih => rw [List.flatMap_cons, List.flatten_append, h a (List.mem_cons_self ..), ih (fun b hb => h b (List.mem_cons_of_mem _ hb)), List.flatMap_cons]
theorem Rp.chunks_flat (x : Rp.V) (rows : List Rw) (gone : List Pn) (hk : x.k < 256) : (x.chunks rows gone).flatten = x.bytes rows gone := by
  unfold Rp.V.chunks Rp.V.bytes
  rw [List.flatten_cons, List.flatten_cons, be_one _ hk, flatMap_flat_mem (x.chunk rows gone) (fun p => x.part rows gone (Rp.lett p)) _ (fun p hp => Rp.chunk_flat x rows gone p (Rp.pparts_lt _ p hp)), Rp.parts_map, List.flatMap_map]
  rfl
theorem Rp.tx_small (k : ByteArray) : ∀ y ∈ Pk.tx (nums k), y < 256 := Pk.tx_lt _ (nums_lt k)
theorem Rp.cpane_lt (p : Pn) : ∀ l ∈ Rp.cpane p, ∀ y ∈ l, y < 256 := by
  intro l hl
  simp only [Rp.cpane, List.mem_cons, List.not_mem_nil, or_false] at hl
  rcases hl with rfl | rfl | rfl
  · exact Rp.tx_small p.k
  · exact Pk.be_lt _ _
  · exact Pk.be_lt _ _
theorem Rp.crow_lt (r : Rw) : ∀ l ∈ Rp.crow r, ∀ y ∈ l, y < 256 := by
  intro l hl
  rcases List.mem_append.1 hl with hl | hl
  · exact Rp.cpane_lt _ l hl
  · simp only [Rp.cagg, List.mem_cons, List.not_mem_nil, or_false] at hl
    rcases hl with rfl | rfl | rfl | rfl
    all_goals exact Pk.be_lt _ _
theorem Rp.chunk_lt (x : Rp.V) (rows : List Rw) (gone : List Pn) (p : Nat) : ∀ l ∈ x.chunk rows gone p, ∀ y ∈ l, y < 256 := by
  intro l hl
  unfold Rp.V.chunk at hl
  split at hl
  · rw [List.mem_singleton.1 hl]; exact Pk.be_lt _ _
  · split at hl
    · rw [List.mem_singleton.1 hl]; exact Pk.be_lt _ _
    · split at hl
      · rcases List.mem_cons.1 hl with rfl | hl
        · exact Pk.be_lt _ _
        · obtain ⟨r, _, hr⟩ := List.mem_flatMap.1 hl
          exact Rp.crow_lt r l hr
      · split at hl
        · rcases List.mem_cons.1 hl with rfl | hl
          · exact Pk.be_lt _ _
          · obtain ⟨r, _, hr⟩ := List.mem_flatMap.1 hl
            exact Rp.cpane_lt r l hr
        · rw [List.mem_singleton.1 hl]; exact Pk.be_lt _ _
theorem Rp.chunks_lt (x : Rp.V) (rows : List Rw) (gone : List Pn) : ∀ l ∈ x.chunks rows gone, ∀ y ∈ l, y < 256 := by
  intro l hl
  unfold Rp.V.chunks at hl
  rcases List.mem_cons.1 hl with rfl | hl
  · exact Pk.be_lt _ _
  · rcases List.mem_cons.1 hl with rfl | hl
    · exact Pk.be_lt _ _
    · obtain ⟨p, _, hp⟩ := List.mem_flatMap.1 hl
      exact Rp.chunk_lt x rows gone p l hp
theorem Rp.chunk_len (x : Rp.V) (rows : List Rw) (gone : List Pn) (p : Nat) : (x.chunk rows gone p).length ≤ 1 + 7 * rows.length + 3 * gone.length := by
  unfold Rp.V.chunk
  split
  · simp; omega
  · split
    · simp; omega
    · split
      · rw [List.length_cons, flat_cnt Rp.crow 7 Rp.crow_len]; omega
      · split
        · rw [List.length_cons, flat_cnt Rp.cpane 3 Rp.cpane_len]; omega
        · simp; omega
theorem Rp.chunks_len (x : Rp.V) (rows : List Rw) (gone : List Pn) (l : List Nat) : (l.flatMap (x.chunk rows gone)).length ≤ l.length * (1 + 7 * rows.length + 3 * gone.length) := by
  induction l with
  | nil => simp
  | cons p l ih =>
    rw [List.flatMap_cons, List.length_append, List.length_cons, Nat.add_mul, Nat.one_mul]
    have := Rp.chunk_len x rows gone p
    omega
theorem Rp.rows_le (rows : List Rw) (h : ∀ r ∈ rows, r.p.k.size ≤ 32) : (rows.flatMap Rp.row).length ≤ 82 * rows.length := by
  induction rows with
  | nil => simp
  | cons r rows ih =>
    have h1 := ih (fun q hq => h q (List.mem_cons_of_mem _ hq))
    have h2 := h r (List.mem_cons_self ..)
    rw [List.flatMap_cons, List.length_append, Rp.row_len, List.length_cons]
    omega
theorem Rp.gone_le (gone : List Pn) (h : ∀ r ∈ gone, r.k.size ≤ 32) : (gone.flatMap Rp.pane).length ≤ 50 * gone.length := by
  induction gone with
  | nil => simp
  | cons r rows ih =>
    have h1 := ih (fun q hq => h q (List.mem_cons_of_mem _ hq))
    have h2 := h r (List.mem_cons_self ..)
    rw [List.flatMap_cons, List.length_append, Rp.pane_len, List.length_cons]
    omega
/-- What is right has short keys, and not many rows. -/
theorem Rp.right_keys {x : Rp.V} {rows : List Rw} {gone : List Pn} (h : x.right rows gone = true) : x.kind = true ∧ (∀ r ∈ rows, r.p.k.size ≤ 32) ∧ (∀ r ∈ gone, r.k.size ≤ 32) ∧ x.n + x.m ≤ 64 := by
  unfold Rp.V.right at h
  simp only [Bool.and_eq_true, List.all_eq_true] at h
  obtain ⟨⟨⟨h1, h2⟩, h3⟩, -⟩ := h
  refine ⟨h1, fun r hr => ?_, fun r hr => ?_, (of_decide_eq_true h1).2.2.2⟩
  · have := h2 r hr
    unfold Rp.rowRight at this
    simp only [Bool.and_eq_true] at this
    exact (of_decide_eq_true this.1.1).2
  · exact (of_decide_eq_true (h3 r hr)).2
theorem Rp.part_le (x : Rp.V) (rows : List Rw) (gone : List Pn) (c : Nat) (h1 : c ≠ 114) (h2 : c ≠ 103) : (x.part rows gone c).length ≤ 8 := by
  unfold Rp.V.part
  split
  · rw [Pk.be_len]; omega
  · split
    · simp
    · rw [Pk.be_len]; omega
theorem Rp.bytes_le {x : Rp.V} {rows : List Rw} {gone : List Pn} (h : x.right rows gone = true) (hr : rows.length = x.n) (hg : gone.length = x.m) : (x.bytes rows gone).length ≤ 5300 := by
  obtain ⟨-, k1, k2, hnm⟩ := Rp.right_keys h
  have e1 := Rp.rows_le rows k1
  have e2 := Rp.gone_le gone k2
  have pr : (x.part rows gone 114).length ≤ 1 + 82 * x.n := by
    show (x.n % 256 :: rows.flatMap Rp.row).length ≤ _
    rw [List.length_cons]; omega
  have pg : (x.part rows gone 103).length ≤ 1 + 50 * x.m := by
    show (x.m % 256 :: gone.flatMap Rp.pane).length ≤ _
    rw [List.length_cons]; omega
  have hp := Rp.part_le x rows gone
  have h101 := hp 101 (by decide) (by decide)
  have h108 := hp 108 (by decide) (by decide)
  have h76 := hp 76 (by decide) (by decide)
  have h117 := hp 117 (by decide) (by decide)
  have h102 := hp 102 (by decide) (by decide)
  have h115 := hp 115 (by decide) (by decide)
  have h116 := hp 116 (by decide) (by decide)
  have h99 := hp 99 (by decide) (by decide)
  unfold Rp.V.bytes Rp.parts
  rw [List.length_append, List.length_cons, Pk.be_len]
  repeat' split
  all_goals simp only [List.flatMap_cons, List.flatMap_nil, List.length_append, List.length_nil]
  all_goals omega
theorem Rp.V.cells_at (x : Rp.V) : x.cells[0]? = some (.int .u8 (x.k : Int)) ∧ x.cells[1]? = some (.int .u32 (x.id : Int)) ∧ x.cells[2]? = some (.int .u16 (x.code : Int)) ∧ x.cells[3]? = some (.bool x.last) ∧ x.cells[10]? = some (.slice x.A x.n x.c) ∧ x.cells[11]? = some (.slice x.G x.m x.d) := ⟨rfl, rfl, rfl, rfl, rfl, rfl⟩
theorem Rp.V.cells_num (x : Rp.V) (p : Nat) (h1 : 2 ≤ p) (h2 : p ≤ 7) : x.cells[p + 2]? = some (.int .u64 ((x.long (Rp.lett p) : Nat) : Int)) := by
  have : p = 2 ∨ p = 3 ∨ p = 4 ∨ p = 5 ∨ p = 6 ∨ p = 7 := by omega
  rcases this with rfl | rfl | rfl | rfl | rfl | rfl <;> rfl
theorem Rp.V.long_lt (x : Rp.V) (c : Nat) (ok : x.ok) : x.long c < 18446744073709551616 := by
  obtain ⟨-, -, -, h1, h2, h3, h4, h5, h6⟩ := ok
  unfold Rp.V.long
  repeat' split
  all_goals assumption
theorem Rp.V.chunk_num (x : Rp.V) (rows : List Rw) (gone : List Pn) (p : Nat) (h1 : 2 ≤ p) (h2 : p ≤ 7) : x.chunk rows gone p = [Pk.be 8 (x.long (Rp.lett p))] := by
  unfold Rp.V.chunk
  rw [if_neg (by omega), if_neg (by omega), if_neg (by omega), if_neg (by omega)]
theorem putF_num (p : Nat) (h1 : 2 ≤ p) (h2 : p ≤ 7) : putF p = 104 := by
  unfold putF
  rw [if_neg (by omega), if_neg (by omega), if_neg (by omega), if_neg (by omega)]
theorem put_part (w0 W : World) (P R p B : Nat) (x : Rp.V) (rows : List Rw) (gone : List Pn) (L : List (List Nat)) (h : Putting w0 W P L) (hL : L.length ≤ 800000) (hb : Blk W R 28 x.cells) (ok : x.ok) (hx : x.In w0 B rows gone) (hB : B ≤ w0.heap.size) (hn : x.n ≤ 1000) (hm : x.m ≤ 1000) (hk : ∀ r ∈ rows, r.p.k.size ≤ 65535) (hk' : ∀ r ∈ gone, r.k.size ≤ 65535) (hp : p < 10) :
    Calls Tryz.prog (putF p) #[.pointer (some ⟨P, 0, none⟩), .pointer (some ⟨R, p + 2, none⟩)] W (PutP w0 W P (L ++ x.chunk rows gone p)) := by
  obtain ⟨-, -, c2, c3, c10, c11⟩ := x.cells_at
  by_cases h0 : p = 0
  · subst h0
    exact put_code w0 W P R 2 x.code L h (by omega) ((hb.cell 2).trans c2) ok.2.2.1
  by_cases h1 : p = 1
  · subst h1
    exact put_flag w0 W P R 3 x.last L h (by omega) ((hb.cell 3).trans c3)
  by_cases h8 : p = 8
  · subst h8
    exact put_rows w0 W P R 10 x.n x.c B x.A rows L h hL ((hb.cell 10).trans c10) hx.1 hB hn hk
  by_cases h9 : p = 9
  · subst h9
    exact put_panes w0 W P R 11 x.m x.d B x.G gone L h hL ((hb.cell 11).trans c11) hx.2 hB hm hk'
  rw [putF_num p (by omega) (by omega), x.chunk_num rows gone p (by omega) (by omega)]
  exact put_number w0 W P R (p + 2) _ L h (by omega) ((hb.cell _).trans (x.cells_num p (by omega) (by omega))) (x.long_lt _ ok)
theorem Putting.drew {w0 W : World} {P : Nat} {L : List (List Nat)} (h : Putting w0 W P L) : Putting w0 W.drew P L := h.below (Below.refl _ _).drew
/-- All parts, packed. -/
theorem put_visit (w0 W : World) (P R B : Nat) (x : Rp.V) (rows : List Rw) (gone : List Pn) (L : List (List Nat)) (h : Putting w0 W P L) (hL : L.length ≤ 100) (hb : Blk W R 28 x.cells) (ok : x.ok) (hx : x.In w0 B rows gone) (hB : B ≤ w0.heap.size) (hn : x.n ≤ 1000) (hm : x.m ≤ 1000) (hk : ∀ r ∈ rows, r.p.k.size ≤ 65535) (hk' : ∀ r ∈ gone, r.k.size ≤ 65535) :
    Calls Tryz.prog 39 #[.pointer (some ⟨R, 0, none⟩), .iface 83 (.pointer (some ⟨P, 0, none⟩))] W fun e W' => e = .returned (.tuple #[]) ∧ Putting w0 W' P (L ++ (Rp.pparts x.k).flatMap (x.chunk rows gone)) := by
  refine (visit_any R 83 x.k _ W (fun l wr => Putting w0 wr P (L ++ l.flatMap (x.chunk rows gone)) ∧ Blk wr R 28 x.cells) ok.1 ((hb.cell 0).trans x.cells_at.1) (fun w1 h1 => ⟨by rw [List.flatMap_nil, List.append_nil]; exact h.below h1, hb.below h1 hb.lt⟩) (fun j p wr hj hp hI => ?_)).mono (fun e w' hh => ⟨hh.1, hh.2.1⟩)
  have hp10 : p < 10 := Rp.pparts_lt x.k p (by
    rw [← hp, List.getD_eq_getElem?_getD, List.getElem?_eq_getElem hj]
    exact List.getElem_mem _)
  have e1 : (Rp.pparts x.k).take (j + 1) = (Rp.pparts x.k).take j ++ [p] := by rw [take_snoc _ _ hj, hp]
  have hlen : (L ++ ((Rp.pparts x.k).take j).flatMap (x.chunk rows gone)).length ≤ 800000 := by
    rw [List.length_append]
    have h1 := Rp.chunks_len x rows gone ((Rp.pparts x.k).take j)
    have h2 : ((Rp.pparts x.k).take j).length ≤ 4 := by
      rw [List.length_take]
      have := Rp.pparts_len x.k
      omega
    have h3 : ((Rp.pparts x.k).take j).length * (1 + 7 * rows.length + 3 * gone.length) ≤ 4 * (1 + 7 * rows.length + 3 * gone.length) := Nat.mul_le_mul_right _ h2
    rw [hx.1.1, hx.2.1] at h1 h3
    omega
  refine show_any R _ p _ _ putF wr _ hp10 (put_visitor P) ((put_part w0 wr.drew P R p B x rows gone _ hI.1.drew hlen hI.2 ok hx hB hn hm hk hk' hp10).mono ?_)
  rintro e w' ⟨rfl, h1, h2⟩
  refine ⟨rfl, ⟨?_, h2 _ _ _ (by decide) (by decide) hI.2⟩, ?_⟩
  · rw [e1, List.flatMap_append, ← List.append_assoc, List.flatMap_singleton]
    exact h1
  · exact (Parts.below ((Below.refl _ wr).drew)).trans h2.parts
/-- What Put answers. -/
def PutR (w : World) (l : List Nat) (r : Int) (e : Ending) (w' : World) : Prop := ∃ A c, e = .returned (.tuple #[.slice A l.length c, .int .i64 r]) ∧ w'.ownsRow w.heap.size 5 1 (.slice A l.length c) l.length (u8s l) ∧ Below w.heap.size w w'
def Rp.putB (x : Rp.V) (rows : List Rw) (gone : List Pn) : List Nat := if x.right rows gone then x.bytes rows gone else []
def Rp.putE (x : Rp.V) (rows : List Rw) (gone : List Pn) : Int := if x.right rows gone then 0 else 81
theorem Putting.rows {w0 W : World} {P : Nat} {L : List (List Nat)} (h : Putting w0 W P L) (hl : ∀ l ∈ L, ∀ x ∈ l, x < 256) : ∃ A n c, L.length = n ∧ Blk W P 78 #[.slice A n c] ∧ RowsOf W W.heap.size A n L := by
  obtain ⟨A, n, c, V, h1, h2, h3, h4, h5, h6⟩ := h
  exact ⟨A, n, c, h1, h2, h4.rows h3 hl⟩
theorem join8 (n c B : Nat) (A : Option Addr) (ls : List (List Nat)) (l : List Nat) (w : World) (hl : ls.flatten = l) (hr : RowsOf w B A n ls) (hB : B ≤ w.heap.size) (hn : n ≤ 1000000) (h1 : l.length ≤ 1000000) : Calls Tryz.prog 40 #[.slice A n c] w (OwnPost w l.length l) := by
  subst hl
  exact join_any n c B A ls w hr hB hn h1
set_option maxRecDepth 100000 in
set_option maxHeartbeats 4000000 in
theorem pPut8_any (x : Rp.V) (rows : List Rw) (gone : List Pn) (B : Nat) (w : World) (hx : x.In w B rows gone) (hB : B ≤ w.heap.size) (ok : x.ok) (hn : x.n ≤ 1000) (hm : x.m ≤ 1000) :
    Calls Tryz.prog 16 #[x.val] w (PutR w (Rp.putB x rows gone) (Rp.putE x rows gone)) := by
  have S0 := (Held.start w).new x.cells 28
  have HS := Lib.hid S0
  have CR : Hid (∀ W, Below w.heap.size w W → Calls Tryz.prog 19 #[x.val] W fun e w' => e = .returned (.bool (x.right rows gone)) ∧ Below W.heap.size W w') := Lib.hid fun W hW => pRight8_any x rows gone B W (hx.below hW hB) (Nat.le_trans hB hW.size) ok hn hm
  have RC : Hid (∀ W, Held w W [(w.heap.size, 28, x.cells)] → RepCells W w.heap.size x) := Lib.hid fun W hW => (rep_cells hW.top).1
  cases hr : x.right rows gone
  · have e1 : Rp.putB x rows gone = [] := by unfold Rp.putB; rw [hr]; rfl
    have e2 : Rp.putE x rows gone = 81 := by unfold Rp.putE; rw [hr]; rfl
    rw [e1, e2]
    rw [hr] at CR
    clear e1 e2 S0 hx hB ok hr
    obtain ⟨k, id, code, last, ep, fl, un, le, st, ti, A, n, c, G, m, d⟩ := x
    unfold Rp.V.val at *
    unfold Rp.V.cells at *
    dsimp only at *
    go_enter Tryz.func16, Tryz.ntmps16
    go_wp2_with fail
    refine (CR.out _ HS.out.1).mono ?_
    rintro e w1 ⟨rfl, p1⟩
    have H1 := Lib.hid (HS.out.step p1)
    clear p1
    go_wp2_with fail
    go_ret2
    exact ⟨none, 0, rfl, own_nil _ _ _ _, H1.out.1⟩
  · have e1 : Rp.putB x rows gone = x.bytes rows gone := by unfold Rp.putB; rw [hr]; rfl
    have e2 : Rp.putE x rows gone = 0 := by unfold Rp.putE; rw [hr]; rfl
    rw [e1, e2]
    obtain ⟨-, hk1, hk2, -⟩ := Rp.right_keys hr
    have hlen := Rp.bytes_le hr hx.1.1 hx.2.1
    have hfl := Rp.chunks_flat x rows gone ok.1
    have hclt := Rp.chunks_lt x rows gone
    have hcl : (x.chunks rows gone).length ≤ 100000 := by
      unfold Rp.V.chunks
      rw [List.length_cons, List.length_cons]
      have h1 := Rp.chunks_len x rows gone (Rp.pparts x.k)
      have h3 : (Rp.pparts x.k).length * (1 + 7 * rows.length + 3 * gone.length) ≤ 4 * (1 + 7 * rows.length + 3 * gone.length) := Nat.mul_le_mul_right _ (Rp.pparts_len x.k)
      rw [hx.1.1, hx.2.1] at h1 h3
      omega
    rw [hr] at CR
    have hk0 := ok.1
    have hid0 := ok.2.1
    have CV : Hid (∀ W P, Putting w W P [Pk.be 1 x.k, Pk.be 4 x.id] → Blk W w.heap.size 28 x.cells → Calls Tryz.prog 39 #[.pointer (some ⟨w.heap.size, 0, none⟩), .iface 83 (.pointer (some ⟨P, 0, none⟩))] W fun e W' => e = .returned (.tuple #[]) ∧ Putting w W' P (x.chunks rows gone)) := Lib.hid fun W P hP hb =>
      put_visit w W P w.heap.size B x rows gone _ hP (by simp) hb ok hx hB hn hm (fun r hr => Nat.le_trans (hk1 r hr) (by omega)) (fun r hr => Nat.le_trans (hk2 r hr) (by omega))
    obtain ⟨L, hL⟩ : ∃ L, x.chunks rows gone = L := ⟨_, rfl⟩
    obtain ⟨bs, hbs⟩ : ∃ bs, x.bytes rows gone = bs := ⟨_, rfl⟩
    rw [hL] at CV hfl hclt hcl
    rw [hbs] at hfl hlen ⊢
    have HF := Lib.hid (And.intro hfl (And.intro hclt (And.intro hlen hcl)))
    clear e1 e2 S0 hx hB ok hr hk1 hk2 hlen hfl hclt hL hbs hcl
    obtain ⟨k, id, code, last, ep, fl, un, le, st, ti, A, n, c, G, m, d⟩ := x
    unfold Rp.V.val RepCells at *
    unfold Rp.V.cells at *
    dsimp only at *
    go_enter Tryz.func16, Tryz.ntmps16
    go_wp2_with fail
    refine (CR.out _ HS.out.1).mono ?_
    rintro e w1 ⟨rfl, p1⟩
    have H1 := HS.out.step p1
    have P1 : Putting w (w1.alloc (.cells #[.slice none 0 0] 78)) w1.heap.size [] := ⟨none, 0, 0, [], rfl, Blk.new _ _ _, own_nil _ _ _ _, Slcs.nil _ _, H1.1.alloc H1.1.size _, H1.1.size⟩
    have H2 := H1.new #[.slice none 0 0] 78
    obtain ⟨d0, d1, -⟩ := RC.out _ ⟨H2.1, fun y hy => H2.2 y (List.mem_cons_of_mem _ hy)⟩
    have H3 := Lib.hid (And.intro P1 (H2.2 _ (List.mem_cons_of_mem _ (List.mem_singleton_self _))))
    clear p1 H1 P1 H2
    go_wp2_with fail
    clear d0 d1
    refine (put8_any _ k _ rfl hk0).mono ?_
    rintro e w2 ⟨a, c2, rfl, ho, b⟩
    have H4 := Lib.hid (And.intro (add_put H3.out.1 b ho (by omega) (by simp)) H3.out.2)
    clear ho b
    go_wp2_with fail
    refine H4.out.1.mono ?_
    rintro e w3 hp
    obtain rfl := hp.1
    have K3 := hp.2.2 _ _ _ (by decide) (by decide) H4.out.2
    have k1 := K3.cell 1
    have H5 := Lib.hid (And.intro hp.2.1 K3)
    clear hp K3
    go_wp2_with fail
    clear k1
    refine (put32_any _ id _ rfl hid0).mono ?_
    rintro e w4 ⟨a, c4, rfl, ho, b⟩
    have H6 := Lib.hid (And.intro (add_put H5.out.1 b ho (by omega) (by simp)) H5.out.2)
    clear ho b
    go_wp2_with fail
    refine H6.out.1.mono ?_
    rintro e w5 hp
    obtain rfl := hp.1
    have K5 := hp.2.2 _ _ _ (by decide) (by decide) H6.out.2
    have H7 := Lib.hid (And.intro hp.2.1 K5)
    clear hp K5
    go_wp2_with fail
    refine (CV.out _ _ H7.out.1 H7.out.2).mono ?_
    rintro e w6 ⟨rfl, hp⟩
    obtain ⟨A6, n6, c6, hn6, hb6, hr6⟩ := hp.rows HF.out.2.1
    have k0 := hb6.cell 0
    have H8 := Lib.hid (And.intro hp (And.intro hn6 hr6))
    clear hp hn6 hb6 hr6
    go_wp2_with fail
    clear k0
    refine (join8 n6 c6 _ A6 L bs _ HF.out.1 H8.out.2.2 (Nat.le_refl _) (by have := H8.out.2.1; have := HF.out.2.2.2; omega) (by have := HF.out.2.2.1; omega)).mono ?_
    rintro e w7 ⟨A7, c7, rfl, o7, b7⟩
    have H9 := Lib.hid (And.intro (own_lower o7 H8.out.1.low.size) (below_next H8.out.1.low b7))
    clear o7 b7
    go_wp2_with fail
    go_ret2
    exact ⟨_, _, rfl, H9.out.1, H9.out.2⟩
end Go.Proofs.YtognlgklepgemaaGreat
