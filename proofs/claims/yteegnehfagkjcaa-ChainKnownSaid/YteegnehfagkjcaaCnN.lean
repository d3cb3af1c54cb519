/- Made by tools/gen/cn.py. -/
/- Layer 15, the program: the links of a chain, told one by one. -/
import Derived.Test.YteegnehfagkjcaaCnP
import Derived.Test.YteegnehfagkjcaaRg
namespace Go.Proofs.Yteegnehfagkjcaa
open Go.ChangeShapes Go.WideShapes Go.ChangeAt Go.RowKit
attribute [local go_sem] Oper.semAt_some

set_option maxRecDepth 100000 in
theorem links_any (p : Option Addr) (w : World) : Calls Try.prog 41 #[.pointer p] w fun e w' => e = .returned (.func (.func 49) #[] #[.pointer (some ⟨w.heap.size, 0, none⟩)]) ∧ w' = w.alloc (.cells #[.pointer p] 28) := by
  go_enter Try.func41, Try.ntmps41
  go_wp2_with fail
  go_ret
  exact ⟨rfl, rfl⟩
/-- A chain, or none, that tells its versions as long as the blocks of K stay. -/
structure Src (S : World → Prop) (K : Nat → Prop) (p : Option Addr) (l : List Cn.Ver) : Prop where
  len : ∀ W, S W → Calls Try.prog 23 #[.pointer p] W (IntP W (l.length : Int))
  link : ∀ W i, S W → i < l.length → Calls Try.prog 48 #[.pointer p, .int .i64 (i : Int)] W (LnkP W (Cn.ix l i) (i == 0) (Cn.behind l i))
  below : ∀ W W', S W → Below W.heap.size W W' → S W'
  blk : ∀ W W', S W → W.heap.size ≤ W'.heap.size → (∀ r, K r → r < W.heap.size → W'.heap[r]? = W.heap[r]?) → S W'
theorem src_chain (g n c sp : Nat) (A : Option Addr) (l : List Cn.Ver) (hn : n ≤ 1000000) (hl : l.length = n) : Src (fun W => ChAt W g A n c sp l) (fun r => r = g ∨ ∃ o p, A = some ⟨r, o, p⟩) (some ⟨g, 0, none⟩) l where
  len W h := by rw [hl]; exact len_any W g n c sp A l h
  link W i h hi := linkAt_any W g n c sp i A l h hn (by omega)
  below W W' h hb := h.below hb
  blk W W' h _ hk := by
    refine ⟨(hk g (.inl rfl) h.blk.lt).trans h.blk, ?_, h.len, h.spl, h.right⟩
    rcases h.row with h1 | ⟨b, o, cur, e, hF, hb, r⟩
    · exact .inl h1
    · exact .inr ⟨b, o, cur, e, hF, (hk b (.inr ⟨o, none, e⟩) hb.lt).trans hb, r⟩
theorem src_nil : Src (fun _ => True) (fun _ => False) none [] where
  len W _ := len_nil W
  link _ _ _ hi := absurd hi (Nat.not_lt_zero _)
  below _ _ _ _ := trivial
  blk _ _ _ _ _ := trivial
def encL (l : List Cn.Ver) (k : Nat) (_ : Unit) : Array Value := #[.agg #[.int .u64 ((Cn.ix l k).e : Int), .bool (Cn.ix l k).d, .int .i64 (Cn.ix l k).a.c, .int .i64 (Cn.ix l k).a.s, .int .i64 (Cn.ix l k).a.lo, .int .i64 (Cn.ix l k).a.hi, .bool (k == 0), .int .u64 (Cn.behind l k : Int)]]
def KpC (K : Nat → Prop) (Bx : Nat) (V V' : World) : Prop := ∀ r, r = Bx ∨ K r → V'.heap[r]? = V.heap[r]?
theorem KpC.trans (K : Nat → Prop) (Bx : Nat) (U V W : World) (h : KpC K Bx U V) (k : KpC K Bx V W) : KpC K Bx U W := fun r hr => (k r hr).trans (h r hr)
set_option maxRecDepth 100000 in
set_option maxHeartbeats 4000000 in
theorem links_gives (S : World → Prop) (K : Nat → Prop) (p : Option Addr) (l : List Cn.Ver) (Bx m : Nat) (w : World) (hSrc : Src S K p l) (hS : S w) (hx : Blk w Bx 28 #[.pointer p]) (hn : l.length ≤ 1000000) :
    Rg.Gives Try.prog m 49 #[.pointer (some ⟨Bx, 0, none⟩)] (encL l) w.heap.size (KpC K Bx) (fun _ _ _ => True) l.length w := by
  intro q J Jx V hVs hVb hJ hJx hY h0
  obtain ⟨n, hln⟩ : ∃ n, l.length = n := ⟨_, rfl⟩
  have HH := Lib.hid (And.intro hJ (And.intro hJx (And.intro hY hSrc)))
  have H0 := Lib.hid (And.intro h0 (And.intro (hx.below hVb hx.lt) (hSrc.below _ _ hS hVb)))
  have q0 := (hx.below hVb hx.lt).cell 0
  simp only [List.getElem?_toArray, List.getElem?_cons_zero] at q0
  have HL := Lib.hid (hSrc.len V H0.out.2.2)
  rw [hln] at HL hn
  rw [hln] at HH
  have HN := Lib.hid hln
  clear hJ hJx hY h0 hVb hx hVs hSrc hS hln
  refine callsIn_of_wp Try.func49 rfl trivial ?_ rfl
  simp only [Try.ntmps49, List.size_toArray, List.length_cons, List.length_nil, Nat.reduceAdd, Nat.reduceSub, Array.replicate_succ, Array.replicate_zero, List.push_toArray, List.append_toArray, List.nil_append, List.cons_append]
  gi_wp2
  refine ⟨trivial, fun h => (by cases h), (callsIn_wide.2 HL.out).mono ?_⟩
  rintro e w1 ⟨rfl, b1⟩
  have H1 := Lib.hid (And.intro (HH.out.1 _ _ _ H0.out.1 b1) (And.intro (H0.out.2.1.below b1 H0.out.2.1.lt) (HH.out.2.2.2.below _ _ H0.out.2.2 b1)))
  clear b1
  gi_wp2
  gi_loopw [6] (fun i wr => ∃ k : Nat, k ≤ n ∧ i = .int .i64 (k : Int) ∧ J k wr ∧ Blk wr Bx 28 #[.pointer p] ∧ S wr) (fun i _ => n - (intOf i).toNat)
  case atStart => exact ⟨0, Nat.zero_le _, rfl, H1.out.1, H1.out.2.1, H1.out.2.2⟩
  case round =>
    obtain ⟨k, hk, rfl, hj, hbx, hs⟩ := hrel
    have y0 := hbx.cell 0
    simp only [List.getElem?_toArray, List.getElem?_cons_zero] at y0
    by_cases hlt : k < n
    · have i3 : (k : Int) < (n : Int) := by omega
      have HLK := Lib.hid (HH.out.2.2.2.link wr k hs (by have := HN.out; omega))
      have hyield : Hid (∀ W, Below wr.heap.size wr W → ∀ m', YieldAt Fence.wide m' Try.prog q #[.agg #[.int .u64 ((Cn.ix l k).e : Int), .bool (Cn.ix l k).d, .int .i64 (Cn.ix l k).a.c, .int .i64 (Cn.ix l k).a.s, .int .i64 (Cn.ix l k).a.lo, .int .i64 (Cn.ix l k).a.hi, .bool (k == 0), .int .u64 (Cn.behind l k : Int)]] W fun e U' => e = .returned (.bool true) ∧ J (k + 1) U' ∧ KpC K Bx W U' ∧ W.heap.size ≤ U'.heap.size ∨ e = .returned (.bool false) ∧ Jx k U') := Lib.hid fun W hW m' => HH.out.2.2.1 m' k () W hlt (HH.out.1 _ _ _ hj hW) trivial
      have HK := Lib.hid (And.intro hlt (And.intro hbx hs))
      clear hj hbx hs hk hlt
      gi_wp2
      refine ⟨trivial, fun h => (by cases h), (callsIn_wide.2 HLK.out).mono ?_⟩
      rintro e w2 ⟨rfl, b2⟩
      obtain ⟨fn, tmps, assign, bd, hy, hR⟩ := hyield.out w2 b2 (m - 1)
      have HR := Lib.hid hR
      have B2 := Lib.hid b2
      clear hR b2
      gi_wp2
      clear hy
      refine ⟨fun h => (by cases h), HR.out.mono ?_⟩
      rintro e W3 (⟨rfl, hJ3, hk3, hs3⟩ | ⟨rfl, hJx⟩)
      · have H3 := Lib.hid (And.intro hJ3 (And.intro ((hk3 Bx (.inl rfl)).trans (HK.out.2.1.below B2.out HK.out.2.1.lt)) (HH.out.2.2.2.blk _ _ (HH.out.2.2.2.below _ _ HK.out.2.2 B2.out) hs3 (fun r hr _ => hk3 r (.inr hr)))))
        clear hJ3 hk3 hs3 y0
        gi_wp2
        go_roundw
        case rel => exact ⟨k + 1, HK.out.1, by go_num, H3.out.1, H3.out.2.1, H3.out.2.2⟩
        case measure => simp [intOf]; have := HK.out.1; omega
      · have HX := Lib.hid hJx
        clear hJx
        gi_wp2
        refine bodyPost_ret (results_none rfl _ _ _) rfl ?_
        exact ⟨⟨_, rfl⟩, .inr ⟨k, by have := HK.out.1; have := HN.out; omega, HX.out⟩⟩
    · have hkn : k = n := by omega
      subst hkn
      have HJ0 := Lib.hid hj
      clear hj hbx hs
      gi_wp2
      go_end0
      exact ⟨⟨_, rfl⟩, .inl (by rw [HN.out]; exact HJ0.out)⟩
end Go.Proofs.Yteegnehfagkjcaa
