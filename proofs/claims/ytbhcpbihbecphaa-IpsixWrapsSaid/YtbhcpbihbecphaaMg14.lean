/-
  2 texts of a proof, joined.
-/
import Derived.Test.YtbhcpbihbecphaaMg13
import Derived.Test.YtbhcpbihbecphaaMg2
import Derived.Test.YtbhcpbihbecphaaMg3

/-
  A packet that comes: the program's reading.
-/
namespace Go.Proofs.Ytbhcpbihbecphaa.sxC
open Go.ChangeShapes Go.WideShapes Go.ChangeAt Go.RowKit
open Go.Proofs.Ytbhcpbihbecphaa.memC Go.Proofs.Ytbhcpbihbecphaa.genC Go.Proofs.Ytbhcpbihbecphaa.adC Go.Proofs.Ytbhcpbihbecphaa.pkC Go.Proofs.Ytbhcpbihbecphaa.freeC
open Go.Proofs.Ytbhcpbihbecphaa.octC (Fr Rd RdD stopped)
set_option linter.unusedVariables false
theorem zRdr_info : (Try.prog.info? 59).map (·.zero) = some (some (.agg #[.pointer none, .int .u8 0])) := by kernel_rfl
theorem zeroRdr (w : World) : (zeroValue 59).run Try.prog w = .ok (.agg #[.pointer none, .int .u8 0]) w := by
  obtain ⟨i, hi, hz⟩ := Option.map_eq_some_iff.1 zRdr_info
  simp [zeroValue, typeInfo, hi, hz]
theorem rdr_info : (Try.prog.info? 59).map (·.size) = some 2 := by kernel_rfl
theorem pk_freshbuilt (h : Int) : Try.prog.built 28 [(5, .bool true), (3, .int .u8 h)] = some (pktV ⟨false, zs 16, false, zs 16, 0, h, 0, true, false, 0⟩ none 0 0) := by kernel_rfl
theorem pk_zerobuilt : Try.prog.built 28 [] = some (pktV zPkt none 0 0) := by kernel_rfl
/-- a packet that is read, and an error; or a reading that stops -/
def PaR (w : World) (g q : Nat) (bs : List Int) (e : Ending) (w' : World) : Prop :=
  (psE bs = 4 ∧ e = stopped ∧ Fr (fun k => k = q ∨ k = g) w w') ∨ (psE bs ≠ 4 ∧ ∃ A n c, e = .returned (.tuple #[.agg (pktV (psP bs) A n c), .int .i64 (psE bs)]) ∧ Own .u8 5 w' w.heap.size (.slice A n c) (psX bs) ∧ Fr (fun k => k = q ∨ k = g) w w')
theorem pa_err {w w' : World} {g q : Nat} {bs : List Int} {c : Int} (h : psE bs = c) (h0 : c ≠ 0) (h4 : c ≠ 4) (F : Fr (fun k => k = q ∨ k = g) w w') : PaR w g q bs (.returned (.tuple #[.agg (pktV zPkt none 0 0), .int .i64 c])) w' := by
  have e1 : psP bs = zPkt := by unfold psP; rw [if_neg (by rw [h]; exact h0)]
  have e2 : psX bs = [] := by unfold psX; rw [if_neg (by rw [h]; exact h0)]
  exact .inr ⟨by rw [h]; exact h4, none, 0, 0, by rw [e1, h], by rw [e2]; exact Own.nil _ _, F⟩
theorem fr_more {S S' : Nat → Prop} {w0 w1 w2 : World} (F0 : Fr S w0 w1) (F : Fr S' w1 w2) (h : ∀ k, k < w0.heap.size → S' k → S k) : Fr S w0 w2 :=
  ⟨F.os.trans F0.os, F.tape.trans F0.tape, F.output.trans F0.output, Nat.le_trans F0.size F.size, fun k hk hn => (F.block k (Nat.lt_of_lt_of_le hk F0.size) fun e => hn (h k hk e)).trans (F0.block k hk hn)⟩
theorem fr_setRow {S : Nat → Prop} {w0 w1 : World} {g : Nat} (F : Fr S w0 w1) (hg : w0.heap.size ≤ g) (cs : Array Value) : Fr S w0 (w1.setRow g cs) := F.setRow hg cs
/-- the names of a reading's blocks -/
structure Nm (w0 : World) (g q B q1 gh : Nat) : Prop where
  hq : q < w0.heap.size
  hg : g < w0.heap.size
  h1 : w0.heap.size < q1
  h2 : q1 < gh
  bq : B ≤ q
  bg : B ≤ g
  gq : g ≠ q
/-- the reader q2 in g, the reader of the header q1 in gh -/
structure PaS (w0 : World) (g q B q1 gh q2 : Nat) (x : Int) (X1 X : List Int) (w' : World) : Prop where
  res : w'.heap[w0.heap.size]? = some (.cells (pktV zPkt none 0 0) 28 (0, 0))
  rb : RdB w' g q2 x
  rd : RdD w' q2 B X
  hb : RdB w' gh q1 0
  hd : RdD w' q1 B X1
  fr : Fr (fun k => k = q ∨ k = g) w0 w'
section
variable {w0 w1 w2 : World} {g q B q1 gh q2 : Nat} {x : Int} {X1 X Y : List Int}
theorem PaS.keep (h : PaS w0 g q B q1 gh q2 x X1 X w1) (hb : Below w1.heap.size w1 w2) : PaS w0 g q B q1 gh q2 x X1 X w2 :=
  have F : Fr (fun _ => False) w1 w2 := Fr.below hb
  ⟨F.row h.res (fun e => e), h.rb.fr F (fun e => e), h.rd.below hb, h.hb.fr F (fun e => e), h.hd.below hb, fr_more h.fr F (fun _ _ e => e.elim)⟩
/-- more of the header read -/
theorem PaS.head (h : PaS w0 g q B q1 gh q2 x X1 X w1) (n : Nm w0 g q B q1 gh) (hne : q1 ≠ q2) (hR : RdD w2 q1 B Y) (F : Fr (· = q1) w1 w2) : PaS w0 g q B q1 gh q2 x Y X w2 := by
  obtain ⟨n1, n2, n3, n4, n5, n6, n7⟩ := n
  exact ⟨F.row h.res (by show ¬ _ = _; omega), h.rb.fr F (by show ¬ _ = _; omega), h.rd.fr F (fun k (e : k = q1) => by omega), h.hb.fr F (by show ¬ _ = _; omega), hR, fr_more h.fr F (fun k hk (e : k = q1) => by omega)⟩
theorem PaS.nxt (h : PaS w0 g q B q1 gh q2 x X1 X w1) (n : Nm w0 g q B q1 gh) (hne : g ≠ q2) (z : Int) : PaS w0 g q B q1 gh q2 z X1 X (w1.setCell ⟨g, 1, none⟩ (.int .u8 z)) := by
  obtain ⟨n1, n2, n3, n4, n5, n6, n7⟩ := n
  exact ⟨(Below.heap_setCell _ _ _ _ (show w0.heap.size ≠ g by omega)).trans h.res, h.rb.set z, rdD_set h.rd _ hne n6, (Below.heap_setCell _ _ _ _ (show gh ≠ g by omega)).trans h.hb, rdD_set h.hd _ (by omega) n6, fr_set h.fr (.inr rfl) _⟩
/-- another reader -/
theorem PaS.ptr (h : PaS w0 g q B q1 gh q2 x X1 X w1) (n : Nm w0 g q B q1 gh) (p : Nat) (hR : RdD w1 p B Y) (hne : g ≠ p) : PaS w0 g q B q1 gh p x X1 Y (w1.setCell ⟨g, 0, none⟩ (.pointer (some ⟨p, 0, none⟩))) := by
  obtain ⟨n1, n2, n3, n4, n5, n6, n7⟩ := n
  exact ⟨(Below.heap_setCell _ _ _ _ (show w0.heap.size ≠ g by omega)).trans h.res, by unfold RdB; rw [heap_setCell_same w1 g 0 _ _ _ h.rb]; rfl, rdD_set hR _ hne n6, (Below.heap_setCell _ _ _ _ (show gh ≠ g by omega)).trans h.hb, rdD_set h.hd _ (by omega) n6, fr_set h.fr (.inr rfl) _⟩
end
theorem wpList_builtN {P : Program} {ops : Array Oper} {rest : List Oper} {o : Oper} {a : Act} {w : World} {Q : Exit → Act → World → Prop} (hg : o.guard = none) (t : TypeId) (xs : Array (Nat × Operand)) (ho : o.op = .build t xs)
    (vs : List (Nat × Value)) (hx : (xs.toList.map fun q => (q.1, a.eval q.2)) = vs) (cells : Array Value) (hf : P.built t vs = some cells)
    (h : wpList P ops Q rest (a.put o.dst (.agg cells)) w) : wpList P ops Q (o :: rest) a w := by
  refine wpList_plain hg fun _ hK => ?_
  unfold Oper.wp execOp
  have hb : (Instr.build t (xs.map fun q => (q.1, a.eval q.2))).run P w = .ok (.agg cells) w := run_build w t _ cells (by rw [Array.toList_map, hx]; exact hf)
  simp only [ho, Sem.run_bind, hb, Result.andThen_ok, Sem.run_pure]
  exact hK _ _ h
theorem fr_any {S : Nat → Prop} {w w' : World} (F : Fr S w w') : Fr S w w' ∧ Below 0 w w' := ⟨F, F.os, F.tape, F.output, F.size, fun k hk => absurd hk (Nat.not_lt_zero _)⟩
theorem PaS.blk {w0 w1 w2 : World} {g q B q1 gh q2 : Nat} {x : Int} {X1 X : List Int} {S : Nat → Prop} (h : PaS w0 g q B q1 gh q2 x X1 X w1) (n : Nm w0 g q B q1 gh) (F : Fr S w1 w2) (hS : ∀ k, S k → q2 < k ∧ gh < k) : PaS w0 g q B q1 gh q2 x X1 X w2 := by
  obtain ⟨n1, n2, n3, n4, n5, n6, n7⟩ := n
  have hb := h.rd.le
  exact ⟨F.row h.res (fun e => by have := hS _ e; omega), h.rb.fr F (fun e => by have := hS _ e; omega), h.rd.fr F (fun k e => by have := hS _ e; omega), h.hb.fr F (fun e => by have := hS _ e; omega), h.hd.fr F (fun k e => by have := hS _ e; omega), fr_more h.fr F (fun k hk e => by have := hS _ e; omega)⟩
def plR (w0 : World) (g q B q1 gh : Nat) (T : Int) (N : Nat) (X0 X1 Y : List Int) : Nat → (Nat → Value) → World → Prop
  | 0, _, w' => PaS w0 g q B q1 gh q 0 X0 Y w'
  | 1, us, w' => us 7 = .int .u64 T ∧ PaS w0 g q B q1 gh q 0 X1 Y w'
  | 2, us, w' => N ≤ Y.length ∧ ∃ p, us 9 = .pointer (some ⟨p, 0, none⟩) ∧ gh < p ∧ RdD w' p B (Y.take N) ∧ PaS w0 g q B q1 gh q 0 X1 (Y.drop N) w'
  | 3, _, w' => N ≤ Y.length ∧ ∃ p, gh < p ∧ PaS w0 g q B q1 gh p 0 X1 (Y.take N) w'
  | _, _, _ => True
theorem plR.keep (w0 : World) (g q B q1 gh : Nat) (T : Int) (N : Nat) (X0 X1 Y : List Int) (k : Nat) (us us' : Nat → Value) (w w' : World) (h : ∀ x ∈ [7, 9, 12], us' x = us x) (hb : Below w.heap.size w w') (hR : plR w0 g q B q1 gh T N X0 X1 Y k us w) : plR w0 g q B q1 gh T N X0 X1 Y k us' w' := by
  unfold plR at hR ⊢
  split at hR
  · exact hR.keep hb
  · exact ⟨(h 7 (by simp)).trans hR.1, hR.2.keep hb⟩
  · obtain ⟨h0, p, h1, h2, h3, h4⟩ := hR
    exact ⟨h0, p, (h 9 (by simp)).trans h1, h2, h3.below hb, h4.keep hb⟩
  · obtain ⟨h0, p, h2, h4⟩ := hR
    exact ⟨h0, p, h2, h4.keep hb⟩
  · trivial
theorem pkt_src {p : Pkt} (hp : p.Ok) (s : Bool) {a : List Int} (ha : a.length = 16) (A : Option Addr) (n c : Nat) : ((pktV p A n c).toList.take 0 ++ (adrV s a).toList ++ (pktV p A n c).toList.drop (0 + (adrV s a).size)).toArray = pktV { p with s := s, a := a } A n c := by
  have hs : (adrV s a).size = 17 := adrV_size ha
  rw [hs]
  unfold pktV pktL
  have l1 := adrC_len (s := p.s) hp.la
  simp only [List.take_zero, List.nil_append]
  rw [List.drop_append, l1, List.drop_of_length_le (by omega)]
  rfl
theorem pkt_dst {p : Pkt} (hp : p.Ok) (s : Bool) {a : List Int} (ha : a.length = 16) (A : Option Addr) (n c : Nat) : ((pktV p A n c).toList.take 17 ++ (adrV s a).toList ++ (pktV p A n c).toList.drop (17 + (adrV s a).size)).toArray = pktV { p with t := s, b := a } A n c := by
  have hs : (adrV s a).size = 17 := adrV_size ha
  rw [hs]
  unfold pktV pktL
  have l1 := adrC_len (s := p.s) hp.la
  have l2 := adrC_len (s := p.t) hp.lb
  show ((adrC p.s p.a ++ (adrC p.t p.b ++ pktT p A n c)).take 17 ++ adrC s a ++ (adrC p.s p.a ++ (adrC p.t p.b ++ pktT p A n c)).drop 34).toArray = _
  rw [List.take_append, l1, List.take_of_length_le (by omega), List.drop_append, l1, List.drop_append, l2, List.drop_of_length_le (by omega), List.drop_of_length_le (by omega)]
  simp only [Nat.sub_self, List.take_zero, List.append_nil, List.nil_append, List.append_assoc]
  rfl
def leR (w0 : World) (g q2 B gp base n : Nat) (y : Int) (X : List Int) (p : Pkt) : Nat → (Nat → Value) → World → Prop
  | 0, _, w' => base ≤ w'.heap.size ∧ CuS w0 g q2 B gp y X p w'
  | 1, us, w' => ∃ A c, us 9 = .slice A n c ∧ base ≤ w'.heap.size ∧ Own .u8 5 w' base (.slice A n c) X ∧ CuS w0 g q2 B gp y [] p w'
  | 2, _, w' => ∃ A c, Own .u8 5 w' base (.slice A n c) X ∧ w'.heap[gp]? = some (.cells (pktV p A n c) 28 (0, 0)) ∧ Fr (fun k => k = q2 ∨ k = g ∨ k = gp) w0 w'
  | _, _, _ => True
theorem CuS.keep {w w1 w2 : World} {g q B gp : Nat} {y : Int} {X : List Int} {p : Pkt} (h : CuS w g q B gp y X p w1) (hb : Below w1.heap.size w1 w2) : CuS w g q B gp y X p w2 :=
  have F : Fr (fun _ => False) w1 w2 := Fr.below hb
  ⟨h.rb.fr F (fun e => e), h.rd.below hb, F.row h.pk (fun e => e), h.fr.trans (Fr.below hb)⟩
theorem leR.keep (w0 : World) (g q2 B gp base n : Nat) (y : Int) (X : List Int) (p : Pkt) (k : Nat) (us us' : Nat → Value) (w w' : World) (h : ∀ x ∈ [9, 11], us' x = us x) (hb : Below w.heap.size w w') (hR : leR w0 g q2 B gp base n y X p k us w) : leR w0 g q2 B gp base n y X p k us' w' := by
  unfold leR at hR ⊢
  split at hR
  · exact ⟨Nat.le_trans hR.1 hb.size, hR.2.keep hb⟩
  · obtain ⟨A, c, h1, h0, h2, h3⟩ := hR
    exact ⟨A, c, (h 9 (by simp)).trans h1, Nat.le_trans h0 hb.size, h2.below hb, h3.keep hb⟩
  · obtain ⟨A, c, h2, h3, h4⟩ := hR
    exact ⟨A, c, h2.below hb, by rw [hb.block _ (lt_of_row h3)]; exact h3, h4.trans (Fr.below hb)⟩
  · trivial
def plV (g q q1 gh : Nat) (T : Int) : Nat → Value → World → Prop
  | 0, v, _ => v = .pointer (some ⟨g, 0, none⟩)
  | 1, v, _ => v = .pointer (some ⟨g, 0, none⟩)
  | 2, v, _ => v = .pointer (some ⟨g, 0, none⟩)
  | 3, v, _ => v = .pointer (some ⟨g, 0, none⟩)
  | 4, v, _ => v = .pointer (some ⟨q, 0, none⟩)
  | 5, v, _ => v = .pointer (some ⟨gh, 0, none⟩)
  | 6, v, _ => v = .pointer (some ⟨q1, 0, none⟩)
  | 8, v, _ => v = .int .i64 T
  | 10, v, _ => v = .pointer (some ⟨g, 0, none⟩)
  | 11, v, _ => v = .pointer (some ⟨g, 0, none⟩)
  | _, _, _ => True
theorem plV.keep (g q q1 gh : Nat) (T : Int) (i : Nat) (v : Value) (w w' : World) (hd : Below w.heap.size w w' ∨ Fr (fun k => k = q1 ∨ k = q ∨ k = g) w w') (h : plV g q q1 gh T i v w) : plV g q q1 gh T i v w' := by
  unfold plV at h ⊢
  split at h <;> exact h
def plT : List (Option Nat) := [none, none, none, none, none, none, none, none, none, none, none, none, none, none, none, none, none, none, none, some 0, some 1, some 2, some 3, some 4, some 5, some 6, some 7, some 8, some 9, some 10, some 11, none, none, none, none, none, none, none, none, none, none, none, none, none, none, none, none, none, none, none, none, none, none, none, none, none, none, none, none, none, none, none, none, none, none, none, none, none]
def leV (g q2 gp n : Nat) : Nat → Value → World → Prop
  | 0, v, _ => v = .pointer (some ⟨g, 0, none⟩)
  | 1, v, _ => v = .pointer (some ⟨g, 0, none⟩)
  | 2, v, _ => v = .pointer (some ⟨g, 0, none⟩)
  | 3, v, _ => v = .pointer (some ⟨q2, 0, none⟩)
  | 4, v, _ => v = .pointer (some ⟨g, 0, none⟩)
  | 5, v, _ => v = .pointer (some ⟨g, 0, none⟩)
  | 6, v, _ => v = .pointer (some ⟨g, 0, none⟩)
  | 7, v, _ => v = .pointer (some ⟨q2, 0, none⟩)
  | 8, v, _ => v = .int .i64 n
  | 10, v, _ => v = .pointer (some ⟨gp, 40, none⟩)
  | _, _, _ => True
theorem leV.keep (g q2 gp n : Nat) (i : Nat) (v : Value) (w w' : World) (hd : Below w.heap.size w w' ∨ Fr (fun k => k = q2 ∨ k = gp) w w') (h : leV g q2 gp n i v w) : leV g q2 gp n i v w' := by
  unfold leV at h ⊢
  split at h <;> exact h
def leT : List (Option Nat) := [none, none, none, none, none, none, none, none, none, none, none, none, none, none, none, none, none, none, none, none, none, none, none, none, none, none, none, none, none, none, none, none, none, none, none, none, none, none, none, none, none, none, none, none, none, none, none, none, none, none, none, none, some 0, some 1, some 2, some 3, some 4, some 5, some 6, some 7, some 8, some 9, some 10, none, none, none, none, none]
set_option maxRecDepth 100000 in
set_option maxHeartbeats 4000000 in
theorem packet_any (g q B : Nat) (bs : List Int) (w : World) (hg : RdB w g q 0) (h : RdD w q B bs) (hm : bs.length ≤ 9000) (hy : ∀ x ∈ bs, Byte x) (hn : g ≠ q) (hB : B ≤ g) :
    Calls Try.prog 32 #[.pointer (some ⟨g, 0, none⟩)] w (PaR w g q bs) := by
  have hzv := zeroPkt
  have hzr := zeroRdr
  have hpb := pk_zerobuilt
  have hqw := h.lt
  have hgw := lt_of_row hg
  have hBq := h.le
  obtain ⟨W1, hW1⟩ : ∃ W1, W1 = w.alloc (.cells (pktV zPkt none 0 0) 28) := ⟨_, rfl⟩
  have B1 : Below w.heap.size w W1 := by rw [hW1]; exact alloc_below _ _
  have s1 : W1.heap.size = w.heap.size + 1 := by rw [hW1]; exact alloc_size _ _
  have R1 := Lib.hid (show W1.heap[w.heap.size]? = some (.cells (pktV zPkt none 0 0) 28 (0, 0)) by rw [hW1]; exact heap_alloc_new w _)
  have G1 := Lib.hid (hg.fr (S := fun _ => False) (Fr.below B1) (fun e => e))
  have c0 := G1.out.ptr
  have D1 := Lib.hid (h.below B1)
  have T1 := Lib.hid (show Calls Try.prog 42 #[.pointer (some ⟨q, 0, none⟩), .int .i64 40] W1 fun e w' => (40 ≤ bs.length ∧ octC.SubR W1 q B bs 40 e w') ∨ (bs.length < 40 ∧ e = stopped ∧ W1 = w') by
    by_cases hl : bs.length < 40
    · exact (octC.sub_stop q bs 40 40 W1 (D1.out).rd rfl hl).mono fun e w' h => .inr ⟨hl, h⟩
    · exact (octC.sub_ok q B bs 40 40 W1 D1.out rfl (by omega)).mono fun e w' h => .inl ⟨by omega, h⟩)
  have HB1 := Lib.hid B1
  have S1 := Lib.hid s1
  have HM := Lib.hid hm
  have HY := Lib.hid hy
  have NE := Lib.hid hn
  have HQW := Lib.hid hqw
  have HGW := Lib.hid hgw
  have HBQ := Lib.hid hBq
  have HBG := Lib.hid hB
  have UZ := Lib.hid (pkC zPkt_ok none 0 0).info
  have OZ := Lib.hid (pkt_one zPkt none 0 0)
  have RI := Lib.hid rdr_info
  clear hg h hm hy hn hB hqw hgw hBq B1 s1
  go_enter Try.func32, Try.ntmps32
  go_upto_region 1 with fail
  rw [← hW1]
  clear hW1 hzv
  go_upto_region 2 with (first
    | (go_at_call 42; (refine T1.out.mono ?_); rintro e v1 (⟨hl, q1, rfl, hq1, RH, RR, F⟩ | ⟨hl, he, rfl⟩)
       rotate_left
       · rw [octC.stopped_eq] at he
         subst he
         exact ⟨rfl, .inl ⟨psE_0 hl, rfl, Fr.below HB1.out⟩⟩
       have L40 := Lib.hid hl
       have HQ1 := Lib.hid hq1
       have D2 := Lib.hid RH
       have D3 := Lib.hid RR
       have F1 := Lib.hid F
       have K1 := Lib.hid RH.lt
       clear hl hq1 RH RR F))
  have BA := Lib.hid (alloc_below v1 (.cells #[.pointer (some ⟨q1, 0, none⟩), .int .u8 0] 59))
  have P0 := Lib.hid (show PaS w g q B q1 v1.heap.size q 0 (bs.take 40) (bs.drop 40) (v1.alloc (.cells #[.pointer (some ⟨q1, 0, none⟩), .int .u8 0] 59)) by
    have F := fr_more (F1.out) (Fr.below (S := fun k => k = q) BA.out) (fun k _ e => e)
    have h1 := HQ1.out
    have h2 := S1.out
    have h3 := HQW.out
    exact ⟨F.row R1.out (by show ¬ _ = _; omega), G1.out.fr F (by show ¬ _ = _; exact NE.out), D3.out.below BA.out, heap_alloc_new v1 _, D2.out.below BA.out, fr_more (Fr.below HB1.out) F (fun k _ e => .inl e)⟩)
  have NM := Lib.hid (show Nm w g q B q1 v1.heap.size from ⟨HQW.out, HGW.out, by have := HQ1.out; have := S1.out; omega, K1.out, HBQ.out, HBG.out, NE.out⟩)
  clear BA D2 D3 F1 T1 G1 R1 HB1 D1 HQ1 S1 K1 c0 hzr
  generalize v1.alloc (.cells #[.pointer (some ⟨q1, 0, none⟩), .int .u8 0] 59) = v2 at *
  obtain ⟨gh, hgh⟩ : ∃ gh, gh = v1.heap.size := ⟨_, rfl⟩
  rw [← hgh] at P0 NM ⊢
  clear hgh
  have c1 := P0.out.hb.ptr
  have y40 : ∀ k, ∀ v ∈ (bs.take 40).drop k, Byte v := fun k v hv => HY.out v (List.mem_of_mem_take (List.mem_of_mem_drop hv))
  have Y40 := Lib.hid y40
  have l40 : ∀ k, ((bs.take 40).drop k).length = 40 - k := fun k => by rw [List.length_drop, List.length_take]; have := L40.out; omega
  have LL := Lib.hid l40
  have T2 := octC.num_okD q1 B (bs.take 40) 4 v2 P0.out.hd (by decide) (by decide) (by rw [fit4]; have := l40 0; rw [List.drop_zero] at this; omega) (by rw [List.length_take]; omega) (y40 0)
  unfold octC.NumD at T2
  rw [fit4, getZ4 (by have := l40 0; rw [List.drop_zero] at this; omega)] at T2
  have b0 := getD_bytes HY.out 0
  have b1 := getD_bytes HY.out 1
  have b23 := w2_bd HY.out 2
  unfold Byte at b0 b1
  have e4 : w4 (bs.take 40) 0 = w4 bs 0 := by
    have t : ∀ k, k < 40 → (bs.take 40).getD k 0 = bs.getD k 0 := fun k hk => by rw [List.getD_eq_getElem?_getD, List.getD_eq_getElem?_getD, List.getElem?_take, if_pos hk]
    unfold w4 w2
    rw [t 0 (by decide), t (0 + 1) (by decide), t (0 + 2) (by decide), t (0 + 2 + 1) (by decide)]
  rw [e4] at T2
  obtain ⟨V, hV⟩ : ∃ V, V = w4 bs 0 := ⟨_, rfl⟩
  obtain ⟨U, hU⟩ : ∃ U, U = bs.getD 0 0 / 16 := ⟨_, rfl⟩
  rw [← hV] at T2
  have T2 := Lib.hid T2
  have hVU : V / 268435456 = U := by rw [hV, hU]; unfold w4 w2 at *; show (((bs.getD 0 0) * 256 + bs.getD 1 0) * 65536 + (bs.getD 2 0 * 256 + bs.getD 3 0)) / 268435456 = _; have : (0 : Int) ≤ bs.getD 2 0 * 256 + bs.getD 3 0 ∧ bs.getD 2 0 * 256 + bs.getD 3 0 ≤ 65535 := b23; omega
  have UB : 0 ≤ U ∧ U ≤ 15 := by omega
  have EU := Lib.hid hU
  clear y40 l40 b0 b1 b23 e4 hV hU
  have ZZ := pk_zerobuilt
  have hzv := zeroPkt
  generalize hZ : pktV zPkt none 0 0 = Z at *
  have EZ := Lib.hid hZ
  clear hZ hpb
  have BZ := Lib.hid ZZ
  clear ZZ
  by_cases h6 : U = 6
  rotate_left
  · have q6 : (U == 6) = false := beq_eq_false_iff_ne.2 h6
    have E := Lib.hid (psE_1 L40.out (by rw [← EU.out]; exact h6))
    clear h6 hzv
    go_wp2_with (first
      | (go_at_call 43; (refine T2.out.mono ?_); rintro e v3 ⟨rfl, R, F⟩
         have P1 := Lib.hid (P0.out.head NM.out (by have := NM.out.h1; have := NM.out.hq; omega) R F)
         have RR := Lib.hid P1.out.res
         rw [EZ.out] at RR
         clear R F)
      | (refine adC.wpList_zero rfl 28 rfl Z BZ.out ?_)
      | (refine wpList_store_row rfl 28 (.tmp 2) (.tmp 18) rfl w.heap.size _ rfl rfl _ _ RR.out UZ.out rfl OZ.out ?_))
    refine bodyPost_ret (v := .tuple #[.agg Z, .int .i64 11]) (adC.results_cell_tmp Try.results32 _ _ w.heap.size _ _ _ _ _ (by rfl) (setRow_heap _ _ _ _ _ _ RR.out) Try.underlying28 rfl UZ.out (by rfl)) rfl ?_
    rw [← EZ.out]
    exact pa_err E.out (by decide) (by decide) (P1.out.fr.setRow (Nat.le_refl _) _)
  have E6 := Lib.hid (show bs.getD 0 0 / 16 = 6 by rw [← EU.out]; exact h6)
  subst h6
  clear EU
  go_upto_region 4 with (first
    | (go_at_call 43; (refine T2.out.mono ?_); rintro e v3 ⟨rfl, R, F⟩
       have P1 := Lib.hid (P0.out.head NM.out (by have := NM.out.h1; have := NM.out.hq; omega) R F)
       clear R F))
  clear T2 hVU UB P0 c1
  have g40 : ∀ k, k < 40 → (bs.take 40).getD k 0 = bs.getD k 0 := fun k hk => by rw [List.getD_eq_getElem?_getD, List.getD_eq_getElem?_getD, List.getElem?_take, if_pos hk]
  have GD := Lib.hid g40
  have gD : ∀ k j, k + j < 40 → ((bs.take 40).drop k).getD j 0 = bs.getD (k + j) 0 := fun k j hk => by rw [List.getD_eq_getElem?_getD, List.getElem?_drop, ← List.getD_eq_getElem?_getD, g40 (k + j) hk]
  have GDD := Lib.hid gD
  obtain ⟨tv0, tv1⟩ := w2_bd HY.out 4
  obtain ⟨T, hT⟩ : ∃ T, T = w2 bs 4 := ⟨_, rfl⟩
  obtain ⟨N, hN⟩ : ∃ N, N = toldN bs := ⟨_, rfl⟩
  have ETN := Lib.hid (show (N : Int) = T by rw [hN, hT]; unfold toldN; omega)
  have WT := Lib.hid (show IntKind.i64.wrap T = T from IntWalk.i64_in _ (by omega))
  have EN := Lib.hid hN
  have T3 := Lib.hid (fun w' (R : RdD w' q1 B ((bs.take 40).drop 4)) => (show Calls Try.prog 43 #[.pointer (some ⟨q1, 0, none⟩), .int .i64 2] w' (fun e w'' => e = .returned (.int .u64 T) ∧ RdD w'' q1 B ((bs.take 40).drop 6) ∧ Fr (· = q1) w' w'') by
    have t := octC.num_okD q1 B ((bs.take 40).drop 4) 2 w' R (by decide) (by decide) (by rw [fit2, LL.out]; decide) (by rw [LL.out]; decide) (Y40.out 4)
    unfold octC.NumD at t
    rw [fit2, getZ2 (by rw [LL.out]; decide), List.drop_drop] at t
    have e : w2 ((bs.take 40).drop 4) 0 = T := by rw [hT]; unfold w2; rw [GDD.out 4 0 (by decide), GDD.out 4 (0 + 1) (by decide)]
    rw [e] at t
    exact t))
  have T4 := Lib.hid (fun w' (R : RdD w' q B (bs.drop 40)) => (show Calls Try.prog 42 #[.pointer (some ⟨q, 0, none⟩), .int .i64 T] w' (fun e w'' => (N ≤ (bs.drop 40).length ∧ octC.SubR w' q B (bs.drop 40) N e w'') ∨ ((bs.drop 40).length < N ∧ e = stopped ∧ w' = w'')) by
    by_cases hl : (bs.drop 40).length < N
    · exact (octC.sub_stop q (bs.drop 40) N T w' R.rd ETN.out hl).mono fun e w' h => .inr ⟨hl, h⟩
    · exact (octC.sub_ok q B (bs.drop 40) N T w' R ETN.out (by omega)).mono fun e w' h => .inl ⟨by omega, h⟩))
  clear g40 gD tv0 tv1 hT hN
  refine with_act fun a0 ha0 => ?_
  have hl : plT.length = a0.tmps.size := by rw [ha0]; rfl
  have k0 : a0.tmps[0]?.getD undef = .pointer (some ⟨g, 0, none⟩) := by rw [ha0]; rfl
  have k4 : a0.tmps[4]?.getD undef = .pointer (some ⟨gh, 0, none⟩) := by rw [ha0]; rfl
  refine wp_region_che (by kernel_rfl) plT (by kernel_rfl) (by kernel_rfl) hl (fun i => undef) (by rw [ha0]; rfl) (0) (Fr (fun k => k = q1 ∨ k = q ∨ k = g)) [7, 9, 12] (by kernel_rfl) (by decide) (by decide) (fun w' => RdB w' gh q1 0) (plV g q q1 gh T) (plR w g q B q1 gh T N ((bs.take 40).drop 4) ((bs.take 40).drop 6) (bs.drop 40)) (Nat.zero_le _) (P1.out.hb.fr (S := fun _ => False) (Fr.below (Below.refl _ _).drew) (fun e => e)) (P1.out.keep (Below.refl _ _).drew) (fun w1 w2 hb hd h => by rcases hd with hd | hd; exact h.fr (S := fun _ => False) (Fr.below hd) (fun e => e); exact h.fr hd (by obtain ⟨n1, n2, n3, n4, n5, n6, n7⟩ := NM.out; omega)) (fun i v w w' _ hd h => plV.keep _ _ _ _ _ i v w w' hd h) (fun k us us' w w' h _ hb hR => plR.keep _ _ _ _ _ _ _ _ _ _ _ k us us' w w' h hb hR) ⟨?_, ?_, ?_, ?_, ?_, ?_, ?_, ?_, ?_, ?_, ?_, ?_, ?_, trivial⟩ ?_
  · refine stepE_val [] (by kernel_rfl) (by decide) (by decide) rfl fun us w' hB hG hV => ?_
    have o0 := (frame_old2 (us := us) (a := a0) (show (plT[0]?).join = none from rfl)).trans k0
    generalize frame plT a0 us = fr at *
    exact val_C (v := .pointer (some ⟨g, 0, none⟩)) (w' := w') (by go_simp) (Below.refl _ _) rfl
  · refine stepE_val [] (by kernel_rfl) (by decide) (by decide) rfl fun us w' hB hG hV => ?_
    have o0 := (frame_old2 (us := us) (a := a0) (show (plT[0]?).join = none from rfl)).trans k0
    generalize frame plT a0 us = fr at *
    exact val_C (v := .pointer (some ⟨g, 0, none⟩)) (w' := w') (by go_simp) (Below.refl _ _) rfl
  · refine stepE_val [1] (by kernel_rfl) (by decide) (by decide) rfl fun us w' hB hG hV => ?_
    have e1 : us 1 = .pointer (some ⟨g, 0, none⟩) := hV 1 (by simp)
    have v1 := (frame_at2 (us := us) hl (show (plT[20]?).join = some 1 from rfl)).trans e1
    generalize frame plT a0 us = fr at *
    exact val_C (v := .pointer (some ⟨g, 0, none⟩)) (w' := w') (by go_simp) (Below.refl _ _) rfl
  · refine stepE_val [2] (by kernel_rfl) (by decide) (by decide) rfl fun us w' hB hG hV => ?_
    have e2 : us 2 = .pointer (some ⟨g, 0, none⟩) := hV 2 (by simp)
    have v2 := (frame_at2 (us := us) hl (show (plT[21]?).join = some 2 from rfl)).trans e2
    generalize frame plT a0 us = fr at *
    exact val_C (v := .pointer (some ⟨g, 0, none⟩)) (w' := w') (by go_simp) (Below.refl _ _) rfl
  · refine stepE_early 0 1 (.inl rfl) (.inr ⟨_, _, rfl, rfl, by kernel_rfl⟩) [3] (by kernel_rfl) (by decide) (by decide) rfl fun us w' k hB hG hV hk hR => ?_
    have e3 : us 3 = .pointer (some ⟨g, 0, none⟩) := hV 3 (by simp)
    have v3 := (frame_at2 (us := us) hl (show (plT[22]?).join = some 3 from rfl)).trans e3
    have hc : w'.cell? ⟨g, 0, none⟩ = some (.pointer (some ⟨q, 0, none⟩)) := by
      obtain ⟨h1, h2⟩ := hk
      match k, h1, h2, hR with
      | 0, _, _, hR => exact PaS.rb (x := 0) (X1 := (bs.take 40).drop 4) hR |>.ptr
      | 1, _, _, hR => exact PaS.rb hR.2 |>.ptr
    generalize frame plT a0 us = fr at *
    exact val_C (v := .pointer (some ⟨q, 0, none⟩)) (w' := w') (by go_simp) (Below.refl _ _) rfl
  · refine stepE_val [] (by kernel_rfl) (by decide) (by decide) rfl fun us w' hB hG hV => ?_
    have o4 := (frame_old2 (us := us) (a := a0) (show (plT[4]?).join = none from rfl)).trans k4
    generalize frame plT a0 us = fr at *
    exact val_C (v := .pointer (some ⟨gh, 0, none⟩)) (w' := w') (by go_simp) (Below.refl _ _) rfl
  · refine stepE_val [5] (by kernel_rfl) (by decide) (by decide) rfl fun us w' hB hG hV => ?_
    have e5 : us 5 = .pointer (some ⟨gh, 0, none⟩) := hV 5 (by simp)
    have v5 := (frame_at2 (us := us) hl (show (plT[24]?).join = some 5 from rfl)).trans e5
    have hc := hG.ptr
    generalize frame plT a0 us = fr at *
    exact val_C (v := .pointer (some ⟨q1, 0, none⟩)) (w' := w') (by go_simp) (Below.refl _ _) rfl
  · refine stepE_chain 0 rfl (by decide) [6] (by kernel_rfl) (by decide) rfl fun us w' hB hG hV hR => ?_
    have e6 : us 6 = .pointer (some ⟨q1, 0, none⟩) := hV 6 (by simp)
    have v6 := (frame_at2 (us := us) hl (show (plT[25]?).join = some 6 from rfl)).trans e6
    generalize frame plT a0 us = fr at *
    have H : PaS w g q B q1 gh q 0 ((bs.take 40).drop 4) (bs.drop 40) w' := hR
    refine call_J (R := fun v w'' => (Fr (fun k => k = q1 ∨ k = q ∨ k = g) w' w'' ∧ Below 0 w' w'') ∧ plR w g q B q1 gh T N ((bs.take 40).drop 4) ((bs.take 40).drop 6) (bs.drop 40) 1 (upd us 7 v) w'') (f := 43) (args := #[.pointer (some ⟨q1, 0, none⟩), .int .i64 2]) (by go_simp) ((T3.out w' H.hd).mono fun e w'' h => ⟨_, h.1, fr_any (h.2.2.mono fun k _ e => .inl e), upd_same _ _ _, H.head NM.out (by have := NM.out.h1; have := NM.out.hq; omega) h.2.1 h.2.2⟩)
  · refine stepE_early 1 1 (.inr ⟨_, rfl, by kernel_rfl⟩) (.inr ⟨_, _, rfl, rfl, by kernel_rfl⟩) [] (by kernel_rfl) (by decide) (by decide) rfl fun us w' k hB hG hV hk hR => ?_
    obtain ⟨k, rfl, hq⟩ : ∃ q, q = k ∧ us 7 = .int .u64 T := by
      obtain ⟨h1, h2⟩ := hk
      match k, h1, h2, hR with
      | 1, _, _, hR => exact ⟨1, rfl, hR.1⟩
    have v7 := (frame_at2 (us := us) hl (show (plT[26]?).join = some 7 from rfl)).trans hq
    have hw := WT.out
    generalize frame plT a0 us = fr at *
    exact val_C (v := .int .i64 T) (w' := w') (by go_simp) (Below.refl _ _) rfl
  · refine stepE_chain 1 rfl (by decide) [4, 8] (by kernel_rfl) (by decide) rfl fun us w' hB hG hV hR => ?_
    have e4 : us 4 = .pointer (some ⟨q, 0, none⟩) := hV 4 (by simp)
    have v4 := (frame_at2 (us := us) hl (show (plT[23]?).join = some 4 from rfl)).trans e4
    have e8 : us 8 = .int .i64 T := hV 8 (by simp)
    have v8 := (frame_at2 (us := us) hl (show (plT[27]?).join = some 8 from rfl)).trans e8
    have hd : (frame plT a0 us).defers = [] := by show a0.defers = []; rw [ha0]
    generalize frame plT a0 us = fr at *
    obtain ⟨e7, H⟩ : us 7 = .int .u64 T ∧ PaS w g q B q1 gh q 0 ((bs.take 40).drop 6) (bs.drop 40) w' := hR
    refine call_two (f := 42) (args := #[.pointer (some ⟨q, 0, none⟩), .int .i64 T]) (by go_simp) ((T4.out w' H.rd).mono fun e w'' h => ?_)
    rcases h with ⟨h1, p, h2, h3, h4, h5, h6⟩ | ⟨h1, h2, h3⟩
    · refine .inl ⟨_, h2, fr_any (h6.mono fun k _ e => .inr (.inl e)), h1, p, upd_same _ _ _, Nat.lt_of_lt_of_le (lt_of_row H.hb) h3, h4, ?_⟩
      obtain ⟨n1, n2, n3, n4, n5, n6, n7⟩ := NM.out
      exact ⟨h6.row H.res (by show ¬ _ = _; omega), H.rb.fr h6 (by show ¬ _ = _; omega), h5, H.hb.fr h6 (by show ¬ _ = _; omega), H.hd.fr h6 (fun k (e : k = q) => by omega), fr_more H.fr h6 (fun k hk e => .inl e)⟩
    · exact .inr ⟨_, h2, hd, .inl ⟨psE_2 L40.out E6.out (by rw [← EN.out]; rw [List.length_drop] at h1; have := L40.out; omega), rfl, h3 ▸ H.fr⟩⟩
  · refine stepE_val [0] (by kernel_rfl) (by decide) (by decide) rfl fun us w' hB hG hV => ?_
    have e0 : us 0 = .pointer (some ⟨g, 0, none⟩) := hV 0 (by simp)
    have v0 := (frame_at2 (us := us) hl (show (plT[19]?).join = some 0 from rfl)).trans e0
    generalize frame plT a0 us = fr at *
    exact val_C (v := .pointer (some ⟨g, 0, none⟩)) (w' := w') (by go_simp) (Below.refl _ _) rfl
  · refine stepE_val [10] (by kernel_rfl) (by decide) (by decide) rfl fun us w' hB hG hV => ?_
    have e10 : us 10 = .pointer (some ⟨g, 0, none⟩) := hV 10 (by simp)
    have v10 := (frame_at2 (us := us) hl (show (plT[29]?).join = some 10 from rfl)).trans e10
    generalize frame plT a0 us = fr at *
    exact val_C (v := .pointer (some ⟨g, 0, none⟩)) (w' := w') (by go_simp) (Below.refl _ _) rfl
  · refine stepE_chain 2 rfl (by decide) [11] (by kernel_rfl) (by decide) rfl fun us w' hB hG hV hR => ?_
    have e11 : us 11 = .pointer (some ⟨g, 0, none⟩) := hV 11 (by simp)
    have v11 := (frame_at2 (us := us) hl (show (plT[30]?).join = some 11 from rfl)).trans e11
    obtain ⟨hNl, p, e9, hgp, hRp, H⟩ : N ≤ (bs.drop 40).length ∧ ∃ p, us 9 = .pointer (some ⟨p, 0, none⟩) ∧ gh < p ∧ RdD w' p B ((bs.drop 40).take N) ∧ PaS w g q B q1 gh q 0 ((bs.take 40).drop 6) ((bs.drop 40).drop N) w' := hR
    have v9 := (frame_at2 (us := us) hl (show (plT[28]?).join = some 9 from rfl)).trans e9
    have hc := H.rb.ptr
    have hf := H.rb.frozen (k := 0)
    generalize frame plT a0 us = fr at *
    refine free_skip (w' := w'.setCell ⟨g, 0, none⟩ (.pointer (some ⟨p, 0, none⟩))) (by go_simp) ⟨undef, rfl, fr_any (fr_set (Fr.refl _) (.inr (.inr rfl)) _), hNl, p, hgp, ?_⟩
    exact H.ptr NM.out p hRp (by obtain ⟨n1, n2, n3, n4, n5, n6, n7⟩ := NM.out; omega)
  · intro us w4 hB2 hG hV hR
    obtain ⟨hNl, q2, hq2, HR⟩ : N ≤ (bs.drop 40).length ∧ ∃ p, gh < p ∧ PaS w g q B q1 gh p 0 ((bs.take 40).drop 6) ((bs.drop 40).take N) w4 := hR
    have HN := Lib.hid hNl
    have HQ2 := Lib.hid hq2
    have P2 := Lib.hid HR
    subst ha0
    simp only [frame, plT, fill]
    clear hV hG hl k0 k4 hNl hq2 HR T3 T4 P1
    generalize us 0 = u0 at *
    generalize us 1 = u1 at *
    generalize us 2 = u2 at *
    generalize us 3 = u3 at *
    generalize us 4 = u4 at *
    generalize us 5 = u5 at *
    generalize us 6 = u6 at *
    generalize us 7 = u7 at *
    generalize us 8 = u8 at *
    generalize us 9 = u9 at *
    generalize us 10 = u10 at *
    generalize us 11 = u11 at *
    clear us
    have n1 := NM.out.hq
    have n2 := NM.out.hg
    have n3 := NM.out.h1
    have n4 := NM.out.h2
    have n5 := HQ2.out
    have NG2 := Lib.hid (show g ≠ q2 by omega)
    have N12 := Lib.hid (show q1 ≠ q2 by omega)
    have OT := Lib.hid (fun k (hk : k < 40) w' (hb : RdB w' gh q1 0) (R : RdD w' q1 B ((bs.take 40).drop k)) => (show Calls Try.prog 44 #[.pointer (some ⟨gh, 0, none⟩)] w' (fun e w'' => e = .returned (.int .u8 (bs.getD k 0)) ∧ RdD w'' q1 B ((bs.take 40).drop (k + 1)) ∧ Fr (· = q1) w' w'') by
      have t := octet_ok gh q1 B 0 ((bs.take 40).drop k) w' hb R (by rw [LL.out]; omega) (by rw [LL.out]; omega) (Y40.out k)
      unfold OcR at t
      rw [GDD.out k 0 (by omega), List.drop_drop, Nat.add_zero] at t
      exact t))
    have AT := Lib.hid (fun k (hk : k + 16 ≤ 40) w' (hb : RdB w' gh q1 0) (R : RdD w' q1 B ((bs.take 40).drop k)) => (show Calls Try.prog 45 #[.pointer (some ⟨gh, 0, none⟩)] w' (fun e w'' => e = .returned (.agg (adrV true ((bs.drop k).take 16))) ∧ RdD w'' q1 B ((bs.take 40).drop (k + 16)) ∧ Fr (· = q1) w' w'') by
      have t := address_ok gh q1 B 0 ((bs.take 40).drop k) w' hb R (by rw [LL.out]; omega) (by rw [LL.out]; omega)
      unfold AdR at t
      have e : ((bs.take 40).drop k).take 16 = (bs.drop k).take 16 := by rw [List.drop_take, List.take_take, show min 16 (40 - k) = 16 by omega]
      rw [e, List.drop_drop] at t
      exact t))
    obtain ⟨y, hyy⟩ : ∃ y, y = bs.getD 6 0 := ⟨_, rfl⟩
    obtain ⟨ho, hho⟩ : ∃ y, y = bs.getD 7 0 := ⟨_, rfl⟩
    obtain ⟨sa, hsa⟩ : ∃ a, a = (bs.drop 8).take 16 := ⟨_, rfl⟩
    obtain ⟨da, hda⟩ : ∃ a, a = (bs.drop 24).take 16 := ⟨_, rfl⟩
    have O6 := OT.out 6 (by decide) w4 P2.out.hb P2.out.hd
    rw [← hyy] at O6
    have O6 := Lib.hid O6
    have O7 := fun w' => OT.out 7 (by decide) w'
    rw [← hho] at O7
    have O7 := Lib.hid O7
    have A8 := fun w' => AT.out 8 (by decide) w'
    rw [← hsa] at A8
    have A8 := Lib.hid A8
    have A24 := fun w' => AT.out 24 (by decide) w'
    rw [← hda] at A24
    have A24 := Lib.hid A24
    have LSA := Lib.hid (show sa.length = 16 by rw [hsa, List.length_take, List.length_drop]; have := L40.out; omega)
    have LDA := Lib.hid (show da.length = 16 by rw [hda, List.length_take, List.length_drop]; have := L40.out; omega)
    have bho := getD_bytes HY.out 7
    rw [← hho] at bho
    have BHO := Lib.hid bho
    have YSA := Lib.hid (show ∀ x ∈ sa, Byte x from fun x hx => HY.out x (by rw [hsa] at hx; exact List.mem_of_mem_drop (List.mem_of_mem_take hx)))
    have YDA := Lib.hid (show ∀ x ∈ da, Byte x from fun x hx => HY.out x (by rw [hda] at hx; exact List.mem_of_mem_drop (List.mem_of_mem_take hx)))
    have EHD := Lib.hid (show hdOf bs = hdrs 8 true y ((bs.drop 40).take N) by unfold hdOf; rw [hyy, EN.out])
    have EPK := Lib.hid (show pkOf bs = ⟨true, sa, true, da, (hdOf bs).proto, ho, (hdOf bs).id, (hdOf bs).whole, (hdOf bs).more, (hdOf bs).off⟩ by unfold pkOf; rw [hsa, hda, hho])
    have UA := Lib.hid (adr_info true LSA.out)
    have UD := Lib.hid (adr_info true LDA.out)
    have OA := Lib.hid (adrV_one true sa)
    have OD := Lib.hid (adrV_one true da)
    have KB := Lib.hid (pk_freshbuilt ho)
    have K0 := Lib.hid (show (⟨false, zs 16, false, zs 16, 0, ho, 0, true, false, 0⟩ : Pkt).Ok from ⟨zPkt_ok.la, zPkt_ok.lb, zPkt_ok.ya, zPkt_ok.yb, zPkt_ok.proto, bho, zPkt_ok.id, zPkt_ok.off⟩)
    have K1 := Lib.hid (show (⟨true, sa, false, zs 16, 0, ho, 0, true, false, 0⟩ : Pkt).Ok from ⟨LSA.out, zPkt_ok.lb, YSA.out, zPkt_ok.yb, zPkt_ok.proto, bho, zPkt_ok.id, zPkt_ok.off⟩)
    have K2 := Lib.hid (show (⟨true, sa, true, da, 0, ho, 0, true, false, 0⟩ : Pkt).Ok from ⟨LSA.out, LDA.out, YSA.out, YDA.out, zPkt_ok.proto, bho, zPkt_ok.id, zPkt_ok.off⟩)
    have I0 := Lib.hid (pkC K0.out none 0 0).info
    have J0 := Lib.hid (show Z.size = (pktV ⟨false, zs 16, false, zs 16, 0, ho, 0, true, false, 0⟩ none 0 0).size by rw [← EZ.out]; exact (pkC zPkt_ok none 0 0).size.trans (pkC K0.out none 0 0).size.symm)
    have Q0 := Lib.hid (pkt_one ⟨false, zs 16, false, zs 16, 0, ho, 0, true, false, 0⟩ none 0 0)
    have SR1 := Lib.hid (pkt_src K0.out true LSA.out none 0 0)
    have SR2 := Lib.hid (pkt_dst K1.out true LDA.out none 0 0)
    have SZA := Lib.hid (show 0 + (adrV true sa).size ≤ (pktV ⟨false, zs 16, false, zs 16, 0, ho, 0, true, false, 0⟩ none 0 0).size by rw [adrV_size LSA.out, (pkC K0.out none 0 0).size]; decide)
    have SZD := Lib.hid (show 17 + (adrV true da).size ≤ (pktV ⟨true, sa, false, zs 16, 0, ho, 0, true, false, 0⟩ none 0 0).size by rw [adrV_size LDA.out, (pkC K1.out none 0 0).size]; decide)
    generalize pktV ⟨false, zs 16, false, zs 16, 0, ho, 0, true, false, 0⟩ none 0 0 = V0 at *
    generalize hV1 : pktV ⟨true, sa, false, zs 16, 0, ho, 0, true, false, 0⟩ none 0 0 = V1 at *
    generalize hAS : adrV true sa = AS at *
    generalize hAD : adrV true da = AD at *
    clear hV1 hAS hAD
    clear hyy hho hsa hda bho n1 n2 n3 n4 n5 OT AT N12
    go_upto_region 6 with (first
      | (go_at_call 44; (refine O6.out.mono ?_); rintro e w5 ⟨rfl, R, F⟩
         have P3 := Lib.hid (P2.out.head NM.out (by have := NM.out.h2; have := HQ2.out; omega) R F)
         have c1 := P3.out.rb.nxt
         have f1 := P3.out.rb.frozen (k := 1)
         clear R F))
    have P4 := Lib.hid (P3.out.nxt NM.out NG2.out y)
    clear P2 P3 c1 f1 O6
    generalize w5.setCell ⟨g, 1, none⟩ (.int .u8 y) = w6 at *
    go_upto_region 7 with (first
      | (go_at_call 44; (refine (O7.out w6 P4.out.hb P4.out.hd).mono ?_); rintro e w7 ⟨rfl, R, F⟩
         have P5 := Lib.hid (P4.out.head NM.out (by have := NM.out.h2; have := HQ2.out; omega) R F)
         have RN := Lib.hid (show (w7.alloc (.cells Z 28)).heap[w7.heap.size]? = some (.cells Z 28 (0, 0)) from heap_alloc_new w7 _)
         clear R F)
      | (refine wpList_builtN rfl 28 _ rfl [(5, .bool true), (3, .int .u8 ho)] (by rfl) V0 KB.out ?_)
      | (refine wpList_store_row rfl 28 (.tmp 5) (.tmp 36) rfl w7.heap.size V0 rfl rfl _ _ RN.out I0.out J0.out Q0.out ?_))
    rw [World.setRow_alloc_new]
    have P6 := Lib.hid (P5.out.keep (alloc_below w7 (.cells V0 28)))
    have RG := Lib.hid (show (w7.alloc (.cells V0 28)).heap[w7.heap.size]? = some (.cells V0 28 (0, 0)) from heap_alloc_new w7 _)
    have L7 := Lib.hid (show gh < w7.heap.size ∧ q2 < w7.heap.size from ⟨lt_of_row P5.out.hb, P5.out.rd.lt⟩)
    clear P4 P5 RN O7 KB I0 J0 Q0
    obtain ⟨gp, hgp⟩ : ∃ gp, gp = w7.heap.size := ⟨_, rfl⟩
    rw [← hgp] at L7 RG
    generalize w7.alloc (.cells V0 28) = w8 at *
    rw [← hgp]
    clear hgp
    go_upto_region 8 with (first
      | (go_at_call 45; (refine (A8.out w8 P6.out.hb P6.out.hd).mono ?_); rintro e w9 ⟨rfl, R, F⟩
         have P7 := Lib.hid (P6.out.head NM.out (by have := NM.out.h2; have := HQ2.out; omega) R F)
         have RG2 := Lib.hid (show w9.heap[gp]? = some (.cells V0 28 (0, 0)) from F.row RG.out (by show ¬ _ = _; have := NM.out.h2; have := L7.out; omega))
         clear R F)
      | (refine partC.wpList_store_part rfl 24 (.tmp 38) (.tmp 37) rfl gp 0 AS rfl rfl _ _ RG2.out UA.out SZA.out OA.out ?_))
    rw [SR1.out]
    have RG3 := Lib.hid (show (w9.setRow gp V1).heap[gp]? = some (.cells V1 28 (0, 0)) from setRow_heap _ _ _ _ _ _ RG2.out)
    have P8 := Lib.hid (P7.out.blk NM.out (S := fun k => k = gp) (w2 := w9.setRow gp V1) ⟨rfl, rfl, rfl, by simp, fun k hk hn => setRow_other _ _ _ _ hn⟩ (fun k e => by have := L7.out; omega))
    clear P6 P7 RG RG2 A8 SR1 SZA
    generalize w9.setRow gp V1 = w10 at *
    go_upto_region 9 with (first
      | (go_at_call 45; (refine (A24.out w10 P8.out.hb P8.out.hd).mono ?_); rintro e w11 ⟨rfl, R, F⟩
         have P9 := Lib.hid (P8.out.head NM.out (by have := NM.out.h2; have := HQ2.out; omega) R F)
         have RG4 := Lib.hid (show w11.heap[gp]? = some (.cells V1 28 (0, 0)) from F.row RG3.out (by show ¬ _ = _; have := NM.out.h2; have := L7.out; omega))
         clear R F)
      | (refine partC.wpList_store_part rfl 24 (.tmp 40) (.tmp 39) rfl gp 17 AD rfl rfl _ _ RG4.out UD.out SZD.out OD.out ?_))
    rw [SR2.out]
    obtain ⟨p, hp⟩ : ∃ p : Pkt, p = ⟨true, sa, true, da, 0, ho, 0, true, false, 0⟩ := ⟨_, rfl⟩
    have RG5 := Lib.hid (show (w11.setRow gp (pktV ⟨true, sa, true, da, 0, ho, 0, true, false, 0⟩ none 0 0)).heap[gp]? = some (.cells (pktV ⟨true, sa, true, da, 0, ho, 0, true, false, 0⟩ none 0 0) 28 (0, 0)) from setRow_heap _ _ _ _ _ _ RG4.out)
    have P10 := Lib.hid (P9.out.blk NM.out (S := fun k => k = gp) (w2 := w11.setRow gp (pktV ⟨true, sa, true, da, 0, ho, 0, true, false, 0⟩ none 0 0)) ⟨rfl, rfl, rfl, by simp, fun k hk hn => setRow_other _ _ _ _ hn⟩ (fun k e => by have := L7.out; omega))
    have FRP := Lib.hid (show Fresh p by rw [hp]; exact ⟨rfl, rfl, rfl, rfl⟩)
    have HPO := K2.out
    have EP := hp
    rw [← hp] at RG5 P10 HPO ⊢
    have HPO := Lib.hid HPO
    have EP := Lib.hid EP
    clear hp P8 P9 RG3 RG4 A24 SR2 SZD UA UD OA OD K0 K1 K2
    generalize w11.setRow gp (pktV p none 0 0) = v at *
    obtain ⟨Y, hY⟩ : ∃ Y, Y = (bs.drop 40).take N := ⟨_, rfl⟩
    have LY := Lib.hid (show Y.length ≤ 9000 by rw [hY, List.length_take, List.length_drop]; have := HM.out; omega)
    have YY := Lib.hid (show ∀ x ∈ Y, Byte x from fun x hx => HY.out x (by rw [hY] at hx; exact List.mem_of_mem_drop (List.mem_of_mem_take hx)))
    rw [← hY] at P10 EHD
    have l3 : 40 + toldN bs ≤ bs.length := by have := HN.out; rw [List.length_drop] at this; have := L40.out; have := EN.out; omega
    have L3 := Lib.hid l3
    have HH := headers_any g q2 B gp y Y p v P10.out.rb P10.out.rd RG5.out HPO.out FRP.out (by have := LY.out; omega) YY.out NG2.out HBG.out (by have := L7.out; omega) (by have := L7.out; have := NM.out; obtain ⟨n1, n2, n3, n4, n5, n6, n7⟩ := this; omega) (by have := L7.out; have := P10.out.rd.le; omega)
    rw [← EHD.out] at HH
    obtain ⟨H, hH⟩ : ∃ H, H = hdOf bs := ⟨_, rfl⟩
    have okH := hdOf_ok HY.out
    rw [← hH] at HH okH EPK
    unfold HdR at HH
    obtain ⟨er, her⟩ : ∃ er, er = H.e := ⟨_, rfl⟩
    rw [← her] at HH
    have HH := Lib.hid HH
    have EH := Lib.hid hH
    have EER := Lib.hid her
    have OKH := Lib.hid okH
    clear hY l3 hH her okH EHD
    by_cases he0 : er = 0
    rotate_left
    · have q0 : (er == 0) = false := beq_eq_false_iff_ne.2 he0
      have E := Lib.hid (psE_3 L40.out E6.out L3.out (by rw [← EH.out, ← EER.out]; exact he0))
      rw [← EH.out, ← EER.out] at E
      have HE0 := Lib.hid he0
      clear he0 hzv
      go_wp2_with (first
        | (go_at_call 46; (refine HH.out.mono ?_); rintro e v2 (⟨h4, he, F⟩ | ⟨h4, rfl, F, _⟩)
           · rw [octC.stopped_eq] at he
             subst he
             exact ⟨rfl, .inl ⟨by rw [E.out]; exact h4, rfl, fr_more P10.out.fr F (fun k hk e => by have := L7.out; have := HQ2.out; have := NM.out.h2; have := NM.out.h1; rcases e with e | e | e; omega; exact .inr e; omega)⟩⟩
           have RR := Lib.hid (F.row P10.out.res (by have := L7.out; have := HQ2.out; have := NM.out.h2; have := NM.out.h1; have := NM.out.hg; rintro (e | e | e) <;> omega))
           rw [EZ.out] at RR
           have FF := Lib.hid (fr_more P10.out.fr F (fun k hk e => by have := L7.out; have := HQ2.out; have := NM.out.h2; have := NM.out.h1; rcases e with e | e | e; omega; exact .inr e; omega))
           have H4 := Lib.hid h4
           clear F h4)
        | (refine adC.wpList_zero rfl 28 rfl Z BZ.out ?_)
        | (refine wpList_store_row rfl 28 (.tmp 2) (.tmp 45) rfl w.heap.size _ rfl rfl _ _ RR.out UZ.out rfl OZ.out ?_))
      refine bodyPost_ret (v := .tuple #[.agg Z, .int .i64 er]) (adC.results_cell_tmp Try.results32 _ _ w.heap.size _ _ _ _ _ (by rfl) (setRow_heap _ _ _ _ _ _ RR.out) Try.underlying28 rfl UZ.out (by rfl)) rfl ?_
      rw [← EZ.out]
      exact pa_err E.out HE0.out H4.out (FF.out.setRow (Nat.le_refl _) _)
    subst he0
    go_upto_region 12 with (first
      | (go_at_call 46; (refine HH.out.mono ?_); rintro e v2 (⟨h4, he, F⟩ | ⟨h4, rfl, F, HS⟩)
         · exact absurd h4 (by decide)
         have S1 := Lib.hid (HS rfl)
         clear F h4 HS))
    have RR := Lib.hid (S1.out.fr.row P10.out.res (by have := L7.out; have := HQ2.out; have := NM.out.h2; have := NM.out.h1; have := NM.out.hg; rintro (e | e | e) <;> omega))
    rw [EZ.out] at RR
    have FF := Lib.hid (fr_more P10.out.fr S1.out.fr (fun k hk e => by have := L7.out; have := HQ2.out; have := NM.out.h2; have := NM.out.h1; rcases e with e | e | e; omega; exact .inr e; omega))
    have PF := Lib.hid (show (finP p H).Ok from ⟨HPO.out.la, HPO.out.lb, HPO.out.ya, HPO.out.yb, HPO.out.proto, HPO.out.hops, OKH.out.id, by have := OKH.out.off; exact ⟨by show -9223372036854775808 ≤ H.off; omega, by show H.off ≤ 9223372036854775807; omega⟩⟩)
    clear HH P10 RG5
    have c1 := S1.out.rb.nxt
    have k34 := S1.out.cell (pkC PF.out none 0 0).proto
    have f34 := S1.out.frozen 34
    obtain ⟨z, hz⟩ : ∃ z, z = H.proto := ⟨_, rfl⟩
    obtain ⟨p2, hp2⟩ : ∃ p2, p2 = { finP p H with proto := z } := ⟨_, rfl⟩
    have E2 := Lib.hid (show pkOf bs = p2 by rw [EPK.out, hp2, hz, EP.out]; rfl)
    have S2 := S1.out.set PF.out (by have := L7.out; omega) (by have := L7.out; have := NM.out; obtain ⟨n1, n2, n3, n4, n5, n6, n7⟩ := this; omega) (by have := L7.out; have := S1.out.rd.le; omega) 0 (.int .u8 z) p2 (by rw [hp2]) (by rw [hp2]) (by rw [hp2]) (by rw [hp2]) (by rw [hp2]; rfl)
    have P2O := Lib.hid (show p2.Ok by rw [← E2.out]; exact pkOf_ok HY.out L40.out)
    rw [← hz] at c1 S2
    have S2 := Lib.hid S2
    clear hz hp2
    go_upto_region 13 with fail
    rw [show (34 + 0 : Nat) = 34 from rfl] at S2
    have RR2 := Lib.hid (show (v2.setCell ⟨gp, 34, none⟩ (.int .u8 z)).heap[w.heap.size]? = some (.cells Z 28 (0, 0)) from (Below.heap_setCell _ _ _ _ (show w.heap.size ≠ gp by have := L7.out; have := NM.out.h2; have := NM.out.h1; omega)).trans RR.out)
    have FF2 := Lib.hid (show Fr (fun k => k = q ∨ k = g) w (v2.setCell ⟨gp, 34, none⟩ (.int .u8 z)) from ⟨FF.out.os, FF.out.tape, FF.out.output, by simpa [World.setCell] using FF.out.size, fun k hk hn => (Below.heap_setCell _ _ _ _ (show k ≠ gp by have := L7.out; have := NM.out.h2; have := NM.out.h1; omega)).trans (FF.out.block k hk hn)⟩)
    clear S1 c1 k34 f34 RR FF
    generalize v2.setCell ⟨gp, 34, none⟩ (.int .u8 z) = v3 at *
    obtain ⟨X, hX⟩ : ∃ X, X = H.rest := ⟨_, rfl⟩
    obtain ⟨n, hn⟩ : ∃ n, n = X.length := ⟨_, rfl⟩
    have LX := Lib.hid (show n ≤ 9000 by rw [hn, hX]; have := hdOf_len bs; rw [← EH.out] at this; have := HM.out; omega)
    have NX := Lib.hid hn
    have EX := Lib.hid hX
    rw [← hX] at S2
    have NGP := Lib.hid (show g ≠ gp by have := L7.out; have := NM.out.h2; have := NM.out.h1; have := NM.out.hg; omega)
    have NQP := Lib.hid (show gp ≠ q2 by have := L7.out; omega)
    have LF := Lib.hid (fun w' (R : RdD w' q2 B X) => (show Calls Try.prog 48 #[.pointer (some ⟨q2, 0, none⟩)] w' (fun e w'' => e = .returned (.int .i64 n) ∧ w' = w'') by
      obtain ⟨A, m, c, h1, h2, h3, N, h4, h5, h6⟩ := R
      have e : m = n := by rw [← N.len, NX.out]
      subst e
      exact octC.left_some q2 A m c w' h1))
    have BF := Lib.hid (fun w' (R : RdD w' q2 B X) => (show Calls Try.prog 47 #[.pointer (some ⟨q2, 0, none⟩), .int .i64 n] w' (octC.ByD w' q2 B X n) from octC.bytes_okD q2 B X n n w' R rfl (by rw [NX.out]; exact Nat.le_refl _) (by rw [← NX.out]; have := LX.out; omega)))
    have TX := Lib.hid (show X.take n = X from List.take_of_length_le (by rw [NX.out]; exact Nat.le_refl _))
    have DX := Lib.hid (show X.drop n = [] from List.drop_of_length_le (by rw [NX.out]; exact Nat.le_refl _))
    have B0 := Lib.hid (show gp + 1 ≤ v3.heap.size from lt_of_row S2.out.pk)
    clear hX hn
    refine with_act fun a0 ha0 => ?_
    have hl : leT.length = a0.tmps.size := by rw [ha0]; rfl
    have k0 : a0.tmps[0]?.getD undef = .pointer (some ⟨g, 0, none⟩) := by rw [ha0]; rfl
    have k5 : a0.tmps[5]?.getD undef = .pointer (some ⟨gp, 0, none⟩) := by rw [ha0]; rfl
    refine wp_region_che (by kernel_rfl) leT (by kernel_rfl) (by kernel_rfl) hl (fun i => undef) (by rw [ha0]; rfl) (0) (Fr (fun k => k = q2 ∨ k = gp)) [9, 11] (by kernel_rfl) (by decide) (by decide) (fun w' => RdB w' g q2 z ∧ w'.heap[w.heap.size]? = some (.cells Z 28 (0, 0)) ∧ Fr (fun k => k = q ∨ k = g) w w') (leV g q2 gp n) (leR v g q2 B gp (gp + 1) n z X p2) (Nat.zero_le _) ⟨(S2.out.rb.fr (S := fun _ => False) (Fr.below (Below.refl _ _).drew) (fun e => e)), RR2.out, FF2.out.trans (Fr.below (Below.refl _ _).drew)⟩ ⟨B0.out, S2.out.keep (Below.refl _ _).drew⟩ (fun w1 w2 hb hd h => by rcases hd with hd | hd; exact ⟨h.1.fr (S := fun _ => False) (Fr.below hd) (fun e => e), (hd.block _ (lt_of_row h.2.1)).trans h.2.1, h.2.2.trans (Fr.below hd)⟩; exact ⟨h.1.fr hd (by have := NG2.out; have := NGP.out; omega), hd.row h.2.1 (by have := L7.out; have := HQ2.out; have := NM.out.h2; have := NM.out.h1; rintro (e | e) <;> omega), fr_more h.2.2 hd (fun k hk e => by have := L7.out; have := HQ2.out; have := NM.out.h2; have := NM.out.h1; rcases e with e | e <;> omega)⟩) (fun i v w w' _ hd h => leV.keep _ _ _ _ i v w w' hd h) (fun k us us' w w' h _ hb hR => leR.keep _ _ _ _ _ _ _ _ _ _ k us us' w w' h hb hR) ⟨?_, ?_, ?_, ?_, ?_, ?_, ?_, ?_, ?_, ?_, ?_, ?_, trivial⟩ ?_
    · refine stepE_val [] (by kernel_rfl) (by decide) (by decide) rfl fun us w' hB hG hV => ?_
      have o0 := (frame_old2 (us := us) (a := a0) (show (leT[0]?).join = none from rfl)).trans k0
      generalize frame leT a0 us = fr at *
      exact val_C (v := .pointer (some ⟨g, 0, none⟩)) (w' := w') (by go_simp) (Below.refl _ _) rfl
    · refine stepE_val [0] (by kernel_rfl) (by decide) (by decide) rfl fun us w' hB hG hV => ?_
      have e0 : us 0 = .pointer (some ⟨g, 0, none⟩) := hV 0 (by simp)
      have v0 := (frame_at2 (us := us) hl (show (leT[52]?).join = some 0 from rfl)).trans e0
      generalize frame leT a0 us = fr at *
      exact val_C (v := .pointer (some ⟨g, 0, none⟩)) (w' := w') (by go_simp) (Below.refl _ _) rfl
    · refine stepE_val [1] (by kernel_rfl) (by decide) (by decide) rfl fun us w' hB hG hV => ?_
      have e1 : us 1 = .pointer (some ⟨g, 0, none⟩) := hV 1 (by simp)
      have v1 := (frame_at2 (us := us) hl (show (leT[53]?).join = some 1 from rfl)).trans e1
      generalize frame leT a0 us = fr at *
      exact val_C (v := .pointer (some ⟨g, 0, none⟩)) (w' := w') (by go_simp) (Below.refl _ _) rfl
    · refine stepE_val [2] (by kernel_rfl) (by decide) (by decide) rfl fun us w' hB hG hV => ?_
      have e2 : us 2 = .pointer (some ⟨g, 0, none⟩) := hV 2 (by simp)
      have v2 := (frame_at2 (us := us) hl (show (leT[54]?).join = some 2 from rfl)).trans e2
      have hc := hG.1.ptr
      generalize frame leT a0 us = fr at *
      exact val_C (v := .pointer (some ⟨q2, 0, none⟩)) (w' := w') (by go_simp) (Below.refl _ _) rfl
    · refine stepE_val [] (by kernel_rfl) (by decide) (by decide) rfl fun us w' hB hG hV => ?_
      have o0 := (frame_old2 (us := us) (a := a0) (show (leT[0]?).join = none from rfl)).trans k0
      generalize frame leT a0 us = fr at *
      exact val_C (v := .pointer (some ⟨g, 0, none⟩)) (w' := w') (by go_simp) (Below.refl _ _) rfl
    · refine stepE_val [4] (by kernel_rfl) (by decide) (by decide) rfl fun us w' hB hG hV => ?_
      have e4 : us 4 = .pointer (some ⟨g, 0, none⟩) := hV 4 (by simp)
      have v4 := (frame_at2 (us := us) hl (show (leT[56]?).join = some 4 from rfl)).trans e4
      generalize frame leT a0 us = fr at *
      exact val_C (v := .pointer (some ⟨g, 0, none⟩)) (w' := w') (by go_simp) (Below.refl _ _) rfl
    · refine stepE_val [5] (by kernel_rfl) (by decide) (by decide) rfl fun us w' hB hG hV => ?_
      have e5 : us 5 = .pointer (some ⟨g, 0, none⟩) := hV 5 (by simp)
      have v5 := (frame_at2 (us := us) hl (show (leT[57]?).join = some 5 from rfl)).trans e5
      generalize frame leT a0 us = fr at *
      exact val_C (v := .pointer (some ⟨g, 0, none⟩)) (w' := w') (by go_simp) (Below.refl _ _) rfl
    · refine stepE_val [6] (by kernel_rfl) (by decide) (by decide) rfl fun us w' hB hG hV => ?_
      have e6 : us 6 = .pointer (some ⟨g, 0, none⟩) := hV 6 (by simp)
      have v6 := (frame_at2 (us := us) hl (show (leT[58]?).join = some 6 from rfl)).trans e6
      have hc := hG.1.ptr
      generalize frame leT a0 us = fr at *
      exact val_C (v := .pointer (some ⟨q2, 0, none⟩)) (w' := w') (by go_simp) (Below.refl _ _) rfl
    · refine stepE_early 0 0 (.inl rfl) (.inr ⟨_, _, rfl, rfl, by kernel_rfl⟩) [7] (by kernel_rfl) (by decide) (by decide) rfl fun us w' k hB hG hV hk hR => ?_
      have e7 : us 7 = .pointer (some ⟨q2, 0, none⟩) := hV 7 (by simp)
      have v7 := (frame_at2 (us := us) hl (show (leT[59]?).join = some 7 from rfl)).trans e7
      have H : CuS v g q2 B gp z X p2 w' := by
        obtain ⟨h1, h2⟩ := hk
        match k, h1, h2, hR with
        | 0, _, _, hR => exact hR.2
      generalize frame leT a0 us = fr at *
      exact call_C (f := 48) (args := #[.pointer (some ⟨q2, 0, none⟩)]) (by go_simp) ((LF.out w' H.rd).mono fun e w'' h => ⟨_, h.1, h.2 ▸ Below.refl _ _, rfl⟩)
    · refine stepE_chain 0 rfl (by decide) [3, 8] (by kernel_rfl) (by decide) rfl fun us w' hB hG hV hR => ?_
      have e3 : us 3 = .pointer (some ⟨q2, 0, none⟩) := hV 3 (by simp)
      have v3 := (frame_at2 (us := us) hl (show (leT[55]?).join = some 3 from rfl)).trans e3
      have e8 : us 8 = .int .i64 n := hV 8 (by simp)
      have v8 := (frame_at2 (us := us) hl (show (leT[60]?).join = some 8 from rfl)).trans e8
      generalize frame leT a0 us = fr at *
      obtain ⟨hbs, H⟩ : gp + 1 ≤ w'.heap.size ∧ CuS v g q2 B gp z X p2 w' := hR
      refine call_J (R := fun v0 w'' => (Fr (fun k => k = q2 ∨ k = gp) w' w'' ∧ Below 0 w' w'') ∧ leR v g q2 B gp (gp + 1) n z X p2 1 (upd us 9 v0) w'') (f := 47) (args := #[.pointer (some ⟨q2, 0, none⟩), .int .i64 n]) (by go_simp) ((BF.out w' H.rd).mono fun e w'' h => ?_)
      obtain ⟨A, c, h1, h2, _, _, h5, h6⟩ := h
      rw [TX.out] at h2
      rw [DX.out] at h5
      exact ⟨_, h1, fr_any (h6.mono fun k _ e => .inl e), A, c, upd_same _ _ _, Nat.le_trans hbs h6.size, h2.less hbs, H.next NG2.out NQP.out h5 h6⟩
    · refine stepE_val [] (by kernel_rfl) (by decide) (by decide) rfl fun us w' hB hG hV => ?_
      have o5 := (frame_old2 (us := us) (a := a0) (show (leT[5]?).join = none from rfl)).trans k5
      generalize frame leT a0 us = fr at *
      exact val_C (v := .pointer (some ⟨gp, 40, none⟩)) (w' := w') (by go_simp) (Below.refl _ _) rfl
    · refine stepE_chain 1 rfl (by decide) [10] (by kernel_rfl) (by decide) rfl fun us w' hB hG hV hR => ?_
      have e10 : us 10 = .pointer (some ⟨gp, 40, none⟩) := hV 10 (by simp)
      have v10 := (frame_at2 (us := us) hl (show (leT[62]?).join = some 10 from rfl)).trans e10
      obtain ⟨A, c, e9, hbs, HO, H⟩ : ∃ A c, us 9 = .slice A n c ∧ gp + 1 ≤ w'.heap.size ∧ Own .u8 5 w' (gp + 1) (.slice A n c) X ∧ CuS v g q2 B gp z [] p2 w' := hR
      have v9 := (frame_at2 (us := us) hl (show (leT[61]?).join = some 9 from rfl)).trans e9
      have hc := H.cell (pkC P2O.out none 0 0).load
      have hf := H.frozen 40
      generalize frame leT a0 us = fr at *
      refine free_skip (w' := w'.setCell ⟨gp, 40, none⟩ (.slice A n c)) (by go_simp) ⟨undef, rfl, fr_any (fr_set (Fr.refl _) (.inr rfl) _), A, c, ?_, ?_, ?_⟩
      · exact HO.keep fun k h1 h2 => Below.heap_setCell _ _ _ _ (show k ≠ gp by omega)
      · have e := heap_setCell_same w' gp 40 _ _ (.slice A n c) H.pk
        rw [e, pkt_set P2O.out none 0 0 6 (.slice A n c) p2 rfl rfl rfl rfl A n c rfl]
      · exact fr_set H.fr (.inr (.inr rfl)) _
    · intro us w4' hB2 hG hV hR
      obtain ⟨A, c, HO, HR, HF⟩ : ∃ A c, Own .u8 5 w4' (gp + 1) (.slice A n c) X ∧ w4'.heap[gp]? = some (.cells (pktV p2 A n c) 28 (0, 0)) ∧ Fr (fun k => k = q2 ∨ k = g ∨ k = gp) v w4' := hR
      have OX := Lib.hid HO
      have RG := Lib.hid HR
      have RR3 := Lib.hid (show w4'.heap[w.heap.size]? = some (.cells Z 28 (0, 0)) from hG.2.1)
      have FF3 := Lib.hid (show Fr (fun k => k = q ∨ k = g) w w4' from hG.2.2)
      subst ha0
      simp only [frame, leT, fill]
      clear hV hG hl k0 k5 HO HR HF LF BF S2 FF2 RR2
      generalize us 0 = x0 at *
      generalize us 1 = x1 at *
      generalize us 2 = x2 at *
      generalize us 3 = x3 at *
      generalize us 4 = x4 at *
      generalize us 5 = x5 at *
      generalize us 6 = x6 at *
      generalize us 7 = x7 at *
      generalize us 8 = x8 at *
      generalize us 9 = x9 at *
      generalize us 10 = x10 at *
      clear us
      have UP := Lib.hid (pkC P2O.out A n c).info
      have SP := Lib.hid (show Z.size = (pktV p2 A n c).size by rw [← EZ.out]; exact (pkC zPkt_ok none 0 0).size.trans (pkC P2O.out A n c).size.symm)
      have OP := Lib.hid (pkt_one p2 A n c)
      have MM := Lib.hid (fun w' => cmay_any p2 A n c w' P2O.out (by have := LX.out; omega))
      obtain ⟨PK, hPK⟩ : ∃ PK, PK = pktV p2 A n c := ⟨_, rfl⟩
      rw [← hPK] at UP SP OP MM RG
      have EPV := Lib.hid hPK
      clear hPK
      obtain ⟨my, hmy⟩ : ∃ my, my = mayS p2 n := ⟨_, rfl⟩
      rw [← hmy] at MM
      have EMY := Lib.hid hmy
      clear hmy
      have EH0 := Lib.hid (show (hdOf bs).e = 0 by rw [← EH.out]; exact EER.out.symm)
      have ERL := Lib.hid (show (hdOf bs).rest.length = n by rw [← EH.out, ← EX.out, NX.out])
      cases my
      · have E := Lib.hid (psE_4 L40.out E6.out L3.out EH0.out (by rw [E2.out, ERL.out]; exact EMY.out.symm))
        go_wp2_with (first
          | (refine wpList_load_row rfl 28 (.tmp 5) rfl gp rfl _ _ _ _ RG.out Try.underlying28 rfl UP.out ?_)
          | (go_at_call 13; (refine (MM.out _).mono ?_); rintro e v7 ⟨rfl, BB⟩
             have RR4 := Lib.hid (show v7.heap[w.heap.size]? = some (.cells Z 28 (0, 0)) by rw [BB.block _ (lt_of_row RR3.out)]; exact RR3.out)
             have FF4 := Lib.hid (FF3.out.trans (Fr.below BB))
             clear BB)
          | (refine adC.wpList_zero rfl 28 rfl Z BZ.out ?_)
          | (refine wpList_store_row rfl 28 (.tmp 2) (.tmp 66) rfl w.heap.size _ rfl rfl _ _ RR4.out UZ.out rfl OZ.out ?_))
        refine bodyPost_ret (v := .tuple #[.agg Z, .int .i64 3]) (adC.results_cell_tmp Try.results32 _ _ w.heap.size _ _ _ _ _ (by rfl) (setRow_heap _ _ _ _ _ _ RR4.out) Try.underlying28 rfl UZ.out (by rfl)) rfl ?_
        rw [← EZ.out]
        exact pa_err E.out (by decide) (by decide) (FF4.out.setRow (Nat.le_refl _) _)
      · have E := Lib.hid (psE_mk L40.out E6.out L3.out EH0.out (by rw [E2.out, ERL.out]; exact EMY.out.symm))
        go_wp2_with (first
          | (refine wpList_load_row rfl 28 (.tmp 5) rfl gp rfl _ _ _ _ (by first | exact RG.out | exact RG4.out) Try.underlying28 rfl UP.out ?_)
          | (go_at_call 13; (refine (MM.out _).mono ?_); rintro e v7 ⟨rfl, BB⟩
             have RR4 := Lib.hid (show v7.heap[w.heap.size]? = some (.cells Z 28 (0, 0)) by rw [BB.block _ (lt_of_row RR3.out)]; exact RR3.out)
             have RG4 := Lib.hid (show v7.heap[gp]? = some (.cells PK 28 (0, 0)) by rw [BB.block _ (lt_of_row RG.out)]; exact RG.out)
             have OX4 := Lib.hid (OX.out.below BB)
             have FF4 := Lib.hid (FF3.out.trans (Fr.below BB))
             clear BB)
          | (refine wpList_store_row rfl 28 (.tmp 2) (.tmp 67) rfl w.heap.size _ rfl rfl _ _ RR4.out UP.out SP.out OP.out ?_))
        refine bodyPost_ret (v := .tuple #[.agg PK, .int .i64 0]) (adC.results_cell_tmp Try.results32 _ _ w.heap.size _ _ _ _ _ (by rfl) (setRow_heap _ _ _ _ _ _ RR4.out) Try.underlying28 rfl UP.out (by rfl)) rfl ?_
        have e1 : psP bs = p2 := by unfold psP; rw [if_pos E.out]; exact E2.out
        have e2 : psX bs = X := by unfold psX; rw [if_pos E.out, ← EH.out]; exact EX.out.symm
        refine .inr ⟨by rw [E.out]; decide, A, n, c, by rw [e1, E.out, EPV.out], ?_, FF4.out.setRow (Nat.le_refl _) _⟩
        rw [e2]
        exact (OX4.out.keep fun k h1 h2 => setRow_other _ _ _ _ (show k ≠ w.heap.size by have := L7.out; have := NM.out.h2; have := NM.out.h1; omega)).less (by have := L7.out; have := NM.out.h2; have := NM.out.h1; omega)
end Go.Proofs.Ytbhcpbihbecphaa.sxC

/-
  The first of two errors that is one.
-/
namespace Go.Proofs.Ytbhcpbihbecphaa.pkC
open Go.ChangeShapes Go.WideShapes Go.ChangeAt Go.RowKit
open Go.Proofs.Ytbhcpbihbecphaa.memC Go.Proofs.Ytbhcpbihbecphaa.genC Go.Proofs.Ytbhcpbihbecphaa.adC
set_option linter.unusedVariables false
set_option maxRecDepth 100000 in
theorem cor_any (a b : Int) (g : Nat) (w : World) (h : w.heap[g]? = some (.cells #[.int .i64 a, .int .i64 b] 31 (0, 0))) :
    Calls Try.prog 33 #[.slice (some ⟨g, 0, none⟩) 2 2] w fun e w' => e = .returned (.int .i64 (if a = 0 then b else a)) ∧ w = w' := by
  have c0 : w.cell? ⟨g, 0, none⟩ = some (.int .i64 a) := by rw [cell_of_row w g 0 _ _ (0, 0) h]; rfl
  have c1 : w.cell? ⟨g, 1, none⟩ = some (.int .i64 b) := by rw [cell_of_row w g 1 _ _ (0, 0) h]; rfl
  clear h
  go_enter Try.func33, Try.ntmps33
  go_wp2_with fail
  go_loop [8] (fun i => ∃ k : Nat, k ≤ 2 ∧ i = .int .i64 k ∧ (1 ≤ k → a = 0) ∧ (2 ≤ k → b = 0)) (fun i => 2 - (intOf i).toNat)
  case atStart => exact ⟨0, by omega, rfl, by omega, by omega⟩
  case round =>
    obtain ⟨k, hk, rfl, h1, h2⟩ := hrel
    match k, hk with
    | 0, _ =>
      by_cases ha : a = 0
      · subst ha
        clear h1 h2
        go_wp2_with fail
        go_round
        case rel => exact ⟨1, by omega, rfl, by simp, by omega⟩
        case measure => simp [intOf]
      · have q : (a == 0) = false := beq_eq_false_iff_ne.2 ha
        clear h1 h2
        go_wp2_with fail
        go_ret
        exact ⟨by first | rfl | rw [if_neg ha], rfl⟩
    | 1, _ =>
      obtain rfl := h1 (by omega)
      by_cases hb : b = 0
      · subst hb
        clear h1 h2
        go_wp2_with fail
        go_round
        case rel => exact ⟨2, by omega, rfl, by simp, by simp⟩
        case measure => simp [intOf]
      · have q : (b == 0) = false := beq_eq_false_iff_ne.2 hb
        clear h1 h2
        go_wp2_with fail
        go_ret
        exact ⟨rfl, rfl⟩
    | 2, _ =>
      obtain rfl := h1 (by omega)
      obtain rfl := h2 (by omega)
      clear h1 h2
      go_wp2_with fail
      go_ret
      exact ⟨rfl, rfl⟩
end Go.Proofs.Ytbhcpbihbecphaa.pkC
