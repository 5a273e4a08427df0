/-
  1 texts of a proof, joined.
-/
import Derived.Test.YtbhcpbihbecphaaMg15
import Derived.Test.YtbhcpbihbecphaaMg20

/-
  Parse of some bytes: the document's.
-/
namespace Go.Proofs.Ytbhcpbihbecphaa.sxC
open Go.ChangeShapes Go.WideShapes Go.ChangeAt Go.RowKit
open Go.Proofs.Ytbhcpbihbecphaa.memC Go.Proofs.Ytbhcpbihbecphaa.genC Go.Proofs.Ytbhcpbihbecphaa.butC Go.Proofs.Ytbhcpbihbecphaa.freeC Go.Proofs.Ytbhcpbihbecphaa.adC Go.Proofs.Ytbhcpbihbecphaa.pkC
open Go.Proofs.Ytbhcpbihbecphaa.octC (Fr Rd RdD stopped)
set_option linter.unusedVariables false
theorem ps_err {w w' : World} {bs : List Int} {c : Int} (h : psE bs = c) (h0 : c ≠ 0) (hB : Below w.heap.size w w') : PsR w bs (.returned (.tuple #[.agg (pktV zPkt none 0 0), .int .i64 c])) w' := by
  have e1 : psP bs = zPkt := by unfold psP; rw [if_neg (by rw [h]; exact h0)]
  have e2 : psX bs = [] := by unfold psX; rw [if_neg (by rw [h]; exact h0)]
  exact ⟨none, 0, 0, by rw [e1, h], by rw [e2]; exact Nums.none_ 0, hB⟩
/-- b[f:e], f within -/
theorem cut_at (b o n c f e m d : Nat) (zf ze : Int) (hf : (f : Int) = zf) (he : (e : Int) = ze) (h1 : f ≤ e) (h2 : e ≤ c) (h3 : f < c) (hm : e - f = m) (hd : c - f = d) (w : World) :
    (Instr.slice 26 (.slice (some ⟨b, o, none⟩) n c) (some (.int .i64 zf)) (some (.int .i64 ze)) none).run Try.prog w = .ok (.slice (some ⟨b, o + f, none⟩) m d) w := by
  subst hf he hm hd
  have h := cut_two (some ⟨b, o, none⟩) n c f e h1 h2 w
  rw [if_neg (by omega), show (some (⟨b, o, none⟩ : Addr)).map (·.add f) = some ⟨b, o + f, none⟩ by simp [memC.add_plain]] at h
  exact h
theorem cut_zz (A : Option Addr) (n c f e m d : Nat) (zf ze : Int) (hf : (f : Int) = zf) (he : (e : Int) = ze) (h1 : f ≤ e) (h2 : e ≤ c) (hm : e - f = m) (hd : c - f = d) (A2 : Option Addr) (hA : A2 = if c = f then A else A.map (·.add f)) (w : World) :
    (Instr.slice 26 (.slice A n c) (some (.int .i64 zf)) (some (.int .i64 ze)) none).run Try.prog w = .ok (.slice A2 m d) w := by
  subst hf he hm hd hA
  exact cut_two A n c f e h1 h2 w
theorem cut_tz (A : Option Addr) (n c f m d : Nat) (zf : Int) (hf : (f : Int) = zf) (h1 : f ≤ n) (h2 : n ≤ c) (hm : n - f = m) (hd : c - f = d) (A2 : Option Addr) (hA : A2 = if c = f then A else A.map (·.add f)) (w : World) :
    (Instr.slice 26 (.slice A n c) (some (.int .i64 zf)) none none).run Try.prog w = .ok (.slice A2 m d) w := by
  subst hf hm hd hA
  exact cut_tail A n c f h1 h2 w
/-- some bytes of a slice -/
theorem nums_at {w : World} {B b o n : Nat} {bs : List Int} (h : Nums .u8 w B (some ⟨b, o, none⟩) n bs) (f m : Nat) (hm : f + m ≤ n) : Nums .u8 w B (some ⟨b, o + f, none⟩) m ((bs.drop f).take m) := by
  refine ⟨by rw [List.length_take, List.length_drop, h.len]; omega, fun h0 => ?_⟩
  obtain ⟨b', o', e, hb, hc⟩ := h.at_ (by omega)
  cases e
  refine ⟨b, o + f, rfl, hb, fun i hi => ?_⟩
  have := hc (f + i) (by omega)
  rw [Nat.add_assoc, this]
  rw [List.getD_eq_getElem?_getD, List.getD_eq_getElem?_getD, List.getElem?_take, if_pos hi, List.getElem?_drop]
theorem get2_at (b o n c k : Nat) (bs : List Int) (w : World) (hb : Nums .u8 w w.heap.size (some ⟨b, o, none⟩) n bs) (hy : ∀ x ∈ bs, Byte x) (hk : k + 2 ≤ n) (d : Nat) (hd : 2 ≤ d) (hm : d ≤ 9223372036854775807) :
    Calls Try.prog 34 #[.slice (some ⟨b, o + k, none⟩) 2 d] w fun e w' => e = .returned (.int .u64 (w2 bs k)) ∧ w = w' := by
  have h := octC.getref_any (some ⟨b, o + k, none⟩) 2 d _ w (nums_at hb k 2 hk) (by decide) hd hm (fun x hx => hy x (List.mem_of_mem_drop (List.mem_of_mem_take hx)))
  rw [octC.last8_take _ 2 (by decide), getZ2 (by rw [List.length_drop, hb.len]; omega)] at h
  have e : w2 (bs.drop k) 0 = w2 bs k := by unfold w2; simp only [List.getD_eq_getElem?_getD, List.getElem?_drop]; rfl
  rw [e] at h
  exact h
theorem get4_at (b o n c k : Nat) (bs : List Int) (w : World) (hb : Nums .u8 w w.heap.size (some ⟨b, o, none⟩) n bs) (hy : ∀ x ∈ bs, Byte x) (hk : k + 4 ≤ n) (d : Nat) (hd : 4 ≤ d) (hm : d ≤ 9223372036854775807) :
    Calls Try.prog 34 #[.slice (some ⟨b, o + k, none⟩) 4 d] w fun e w' => e = .returned (.int .u64 (w4 bs k)) ∧ w = w' := by
  have h := octC.getref_any (some ⟨b, o + k, none⟩) 4 d _ w (nums_at hb k 4 hk) (by decide) hd hm (fun x hx => hy x (List.mem_of_mem_drop (List.mem_of_mem_take hx)))
  rw [octC.last8_take _ 4 (by decide), getZ4 (by rw [List.length_drop, hb.len]; omega)] at h
  have e : w4 (bs.drop k) 0 = w4 bs k := by unfold w4 w2; simp only [List.getD_eq_getElem?_getD, List.getElem?_drop]; rfl
  rw [e] at h
  exact h
theorem of16_at (b o n k : Nat) (bs : List Int) (w : World) (hb : Nums .u8 w w.heap.size (some ⟨b, o, none⟩) n bs) (hk : k + 16 ≤ n) (d : Nat) :
    Calls Try.prog 35 #[.slice (some ⟨b, o + k, none⟩) 16 d] w (Ret w (.tuple #[.agg (adrV true ((bs.drop k).take 16)), .int .i64 0])) := by
  have hN := nums_at hb k 16 hk
  have h := rof_any (some ⟨b, o + k, none⟩) 16 d _ w hN
  have e16 : ofL ((bs.drop k).take 16) = some (true, (bs.drop k).take 16) := by unfold ofL; rw [if_neg (by rw [hN.len]; decide), if_pos hN.len]
  rw [e16] at h
  exact h
theorem list16 {xs : List Int} (h : xs.length = 16) : ∃ x0 x1 x2 x3 x4 x5 x6 x7 x8 x9 xa xb xc xd xe xf, xs = [x0, x1, x2, x3, x4, x5, x6, x7, x8, x9, xa, xb, xc, xd, xe, xf] := by
  match xs, h with
  | [x0, x1, x2, x3, x4, x5, x6, x7, x8, x9, xa, xb, xc, xd, xe, xf], _ => exact ⟨x0, x1, x2, x3, x4, x5, x6, x7, x8, x9, xa, xb, xc, xd, xe, xf, rfl⟩
theorem pk_rbuilt {sa da : List Int} (h1 : sa.length = 16) (h2 : da.length = 16) (ho y : Int) : Try.prog.built 28 [(0, .agg (adrV true sa)), (1, .agg (adrV true da)), (3, .int .u8 ho), (2, .int .u8 y), (5, .bool true)] = some (pktV ⟨true, sa, true, da, y, ho, 0, true, false, 0⟩ none 0 0) := by
  obtain ⟨x0, x1, x2, x3, x4, x5, x6, x7, x8, x9, xa, xb, xc, xd, xe, xf, rfl⟩ := list16 h1
  obtain ⟨y0, y1, y2, y3, y4, y5, y6, y7, y8, y9, ya, yb, yc, yd, ye, yf, rfl⟩ := list16 h2
  kernel_rfl
theorem built5_run {P : Program} {fr : Act} {o : Oper} {w : World} {T : TypeId} {i0 i1 i2 i3 i4 : Nat} {x0 x1 x2 x3 x4 : Operand} {v0 v1 v2 v3 v4 : Value} {C : Array Value} (ho : o.op = .build T #[(i0, x0), (i1, x1), (i2, x2), (i3, x3), (i4, x4)])
    (h0 : fr.eval x0 = v0) (h1 : fr.eval x1 = v1) (h2 : fr.eval x2 = v2) (h3 : fr.eval x3 = v3) (h4 : fr.eval x4 = v4)
    (hb : P.built T [(i0, v0), (i1, v1), (i2, v2), (i3, v3), (i4, v4)] = some C) : (execOp fr.eval o).run P w = .ok (.value (.agg C)) w := by
  unfold execOp
  have h : (Instr.build T #[(i0, v0), (i1, v1), (i2, v2), (i3, v3), (i4, v4)]).run P w = .ok (.agg C) w := run_build w T _ C hb
  simp [ho, h0, h1, h2, h3, h4, h, Result.andThen_ok]
/-- the reading's state: the rest, and the packet so far -/
structure LpS (w : World) (g : Nat) (A : Option Addr) (c : Nat) (X : List Int) (p : Pkt) (w' : World) : Prop where
  cap : X.length ≤ c
  max : c ≤ 9223372036854775807
  nums : Nums .u8 w' w.heap.size A X.length X
  byt : ∀ x ∈ X, Byte x
  len : X.length ≤ 9000
  bel : Below w.heap.size w w'
  res : w'.heap[w.heap.size]? = some (.cells (pktV zPkt none 0 0) 28 (0, 0))
  pk : w'.heap[g]? = some (.cells (pktV p none 0 0) 28 (0, 0))
  lt : w.heap.size < g
  ok : p.Ok
section
variable {w w1 w2 : World} {g : Nat} {A : Option Addr} {c : Nat} {X : List Int} {p : Pkt}
theorem LpS.cell (h : LpS w g A c X p w1) {k : Nat} {v : Value} (hc : (pktV p none 0 0)[k]? = some v) : w1.cell? ⟨g, k, none⟩ = some v := PkC.cell h.pk hc
theorem LpS.frozen (h : LpS w g A c X p w1) (k : Nat) : w1.frozen? ⟨g, k, none⟩ = false := frozen_of_row w1 g k _ _ h.pk
theorem LpS.keep (h : LpS w g A c X p w1) (b : Below w1.heap.size w1 w2) : LpS w g A c X p w2 :=
  ⟨h.cap, h.max, h.nums.below (b.mono (by have := h.bel.size; omega)), h.byt, h.len, h.bel.trans (b.mono (by have := h.bel.size; omega)), by rw [b.block _ (lt_of_row h.res)]; exact h.res, by rw [b.block _ (lt_of_row h.pk)]; exact h.pk, h.lt, h.ok⟩
theorem LpS.set (h : LpS w g A c X p w1) (k : Nat) (v : Value) (p' : Pkt) (ok' : p'.Ok) (e1 : p'.s = p.s) (e2 : p'.a = p.a) (e3 : p'.t = p.t) (e4 : p'.b = p.b) (e : (pktT p none 0 0).set k v = pktT p' none 0 0) : LpS w g A c X p' (w1.setCell ⟨g, 34 + k, none⟩ v) :=
  have hb : Below w.heap.size w1 (w1.setCell ⟨g, 34 + k, none⟩ v) := (Below.refl _ _).setCell (p := ⟨g, 34 + k, none⟩) (by have := h.lt; show w.heap.size ≤ g; omega) _
  ⟨h.cap, h.max, h.nums.below hb, h.byt, h.len, h.bel.trans hb, (Below.heap_setCell _ _ _ _ (show w.heap.size ≠ g by have := h.lt; omega)).trans h.res, by rw [heap_setCell_same w1 g (34 + k) _ _ _ h.pk, pkt_set h.ok none 0 0 k v p' e1 e2 e3 e4 none 0 0 e], h.lt, ok'⟩
/-- less of the rest -/
theorem LpS.cut (h : LpS w g A c X p w1) (k : Nat) (hk : k ≤ X.length) : LpS w g (if c = k then A else A.map (·.add k)) (c - k) (X.drop k) p w1 :=
  ⟨by rw [List.length_drop]; have := h.cap; omega, by have := h.max; omega, by rw [List.length_drop]; exact h.nums.cut hk h.cap, fun x hx => h.byt x (List.mem_of_mem_drop hx), by rw [List.length_drop]; have := h.len; omega, h.bel, h.res, h.pk, h.lt, h.ok⟩
end
def cuR (w : World) (g : Nat) (A : Option Addr) (c : Nat) (X : List Int) (p0 p1 p2 : Pkt) : Nat → (Nat → Value) → World → Prop
  | 0, _, w' => LpS w g A c X p0 w'
  | 1, _, w' => LpS w g A c X p1 w'
  | 2, _, w' => LpS w g A c X p2 w'
  | _, _, _ => True
theorem cuR.keep (w : World) (g : Nat) (A : Option Addr) (c : Nat) (X : List Int) (p0 p1 p2 : Pkt) (k : Nat) (us us' : Nat → Value) (w1 w2 : World) (hb : Below w1.heap.size w1 w2) (hR : cuR w g A c X p0 p1 p2 k us w1) : cuR w g A c X p0 p1 p2 k us' w2 := by
  unfold cuR at hR ⊢
  split at hR
  · exact hR.keep hb
  · exact hR.keep hb
  · exact hR.keep hb
  · trivial
def biR (w : World) (B : Nat) (C : Array Value) : Nat → (Nat → Value) → World → Prop
  | 0, _, w' => True
  | 1, us, w' => ∃ g, us 9 = .pointer (some ⟨g, 0, none⟩) ∧ B ≤ g ∧ w'.heap[g]? = some (.cells (pktV zPkt none 0 0) 28 (0, 0))
  | 2, us, w' => ∃ g, us 9 = .pointer (some ⟨g, 0, none⟩) ∧ B ≤ g ∧ w'.heap[g]? = some (.cells C 28 (0, 0))
  | _, _, _ => True
theorem biR.keep (w : World) (B : Nat) (C : Array Value) (k : Nat) (us us' : Nat → Value) (w1 w2 : World) (h : ∀ x ∈ [9, 10], us' x = us x) (hb : Below w1.heap.size w1 w2) (hR : biR w B C k us w1) : biR w B C k us' w2 := by
  unfold biR at hR ⊢
  split at hR
  · trivial
  · obtain ⟨g, h1, h2, h3⟩ := hR
    exact ⟨g, (h 9 (by simp)).trans h1, h2, by rw [hb.block _ (lt_of_row h3)]; exact h3⟩
  · obtain ⟨g, h1, h2, h3⟩ := hR
    exact ⟨g, (h 9 (by simp)).trans h1, h2, by rw [hb.block _ (lt_of_row h3)]; exact h3⟩
  · trivial
theorem below_any {B : Nat} {w w' : World} (h : Below B w w') : Below B w w' ∧ Below 0 w w' := ⟨h, h.mono (Nat.zero_le _)⟩
/-- the state in the midst of the headers -/
def LpR (w : World) (g : Nat) (p0 : Pkt) (H : Hd) (i : Nat) (A : Option Addr) (c : Nat) (X : List Int) (wr : World) : Prop :=
  (∃ y, i ≤ 8 ∧ LpS w g A c X { p0 with proto := y } wr ∧ hdrs (8 - i) (decide (i = 0)) y X = H) ∨ (H.e = 0 ∧ H.whole = false ∧ X = H.rest ∧ LpS w g A c X { finP p0 H with proto := H.proto } wr)
theorem fun_setRow {w w' : World} {cs : Array Value} (h : Below w.heap.size w w') : Below w.heap.size w (w'.setRow w.heap.size cs) :=
  h.trans ⟨rfl, rfl, rfl, by simp, fun z hz => setRow_other _ _ _ _ (by omega)⟩
/-- what there was stands, and the world has grown to B at least -/
def GrB (B : Nat) (w0 w : World) : Prop := Below B w0 w ∧ B ≤ w.heap.size
theorem GrB.trans_row {B : Nat} {w0 w : World} (h : GrB B w0 w) {g : Nat} {ob : Obj} (hr : g < B ∧ w0.heap[g]? = some ob) : w.heap[g]? = some ob := by rw [h.1.block _ hr.1]; exact hr.2
theorem GrB.bsize {B : Nat} {w0 w : World} (h : GrB B w0 w) {n : Nat} (_ : B = n) : B ≤ w.heap.size := h.2
theorem GrB.keep {B : Nat} {w0 w w' : World} (h : GrB B w0 w) (hd : Below w.heap.size w w' ∨ Below B w w') : GrB B w0 w' := by
  rcases hd with hd | hd
  · exact ⟨h.1.trans (hd.mono h.2), Nat.le_trans h.2 hd.size⟩
  · exact ⟨h.1.trans hd, Nat.le_trans h.2 hd.size⟩
def biV (b o n0 c0 g5 g7 : Nat) (SA DA V0 : Array Value) (ho y : Int) : Nat → Value → World → Prop
  | 0, v, _ => v = .agg SA
  | 1, v, _ => v = .agg DA
  | 2, v, _ => v = .slice (some ⟨b, o, none⟩) n0 c0
  | 3, v, _ => v = .pointer (some ⟨b, o + 7, none⟩)
  | 4, v, _ => v = .int .u8 ho
  | 5, v, _ => v = .slice (some ⟨b, o, none⟩) n0 c0
  | 6, v, _ => v = .pointer (some ⟨b, o + 6, none⟩)
  | 7, v, _ => v = .int .u8 y
  | 8, v, _ => v = .agg V0
  | _, _, _ => True
theorem biV.keep (b o n0 c0 g5 g7 : Nat) (SA DA V0 : Array Value) (ho y : Int) (i : Nat) (v : Value) (w w' : World) (hd : True) (h : biV b o n0 c0 g5 g7 SA DA V0 ho y i v w) : biV b o n0 c0 g5 g7 SA DA V0 ho y i v w' := by
  unfold biV at h ⊢
  split at h <;> exact h
def biT : List (Option Nat) := [none, none, none, none, none, none, none, none, none, some 9, none, none, none, none, none, none, none, none, none, none, none, none, none, none, none, none, none, none, none, none, none, none, none, none, none, none, none, none, none, none, none, none, none, none, none, some 0, some 1, some 2, some 3, some 4, some 5, some 6, some 7, some 8, none, none, none, none, none, none, none, none, none, none, none, none, none, none, none, none, none, none, none, none, none, none, none, none, none, none, none, none, none, none, none, none, none, none, none, none, none, none, none, none, none, none, none, none, none, none, none, none, none, none, none, none, none, none, none, none, none, none, none, none, none, none, none, none, none, none, none, none, none, none, none, none, none, none, none, none, none, none, none, none]
def cqV (br q nr cr g d2 : Nat) (V t f x r : Int) (mo : Bool) : Nat → Value → World → Prop
  | 0, v, _ => v = .slice (some ⟨br, q, none⟩) nr cr
  | 1, v, _ => v = .slice (some ⟨br, q + 2, none⟩) 2 d2
  | 2, v, _ => v = .int .u64 V
  | 3, v, _ => v = .int .i64 V
  | 4, v, _ => v = .int .i64 t
  | 5, v, _ => v = .int .i64 f
  | 6, v, _ => v = .slice (some ⟨br, q, none⟩) nr cr
  | 7, v, _ => v = .pointer (some ⟨br, q + 3, none⟩)
  | 8, v, _ => v = .int .u8 x
  | 9, v, _ => v = .int .u8 r
  | 10, v, _ => v = .bool mo
  | 11, v, _ => v = .pointer (some ⟨g, 39, none⟩)
  | 13, v, _ => v = .pointer (some ⟨g, 38, none⟩)
  | _, _, _ => True
theorem cqV.keep (br q nr cr g d2 : Nat) (V t f x r : Int) (mo : Bool) (i : Nat) (v : Value) (w w' : World) (hd : Below w.heap.size w w' ∨ Fr (· = g) w w') (h : cqV br q nr cr g d2 V t f x r mo i v w) : cqV br q nr cr g d2 V t f x r mo i v w' := by
  unfold cqV at h ⊢
  split at h <;> exact h
def cqT : List (Option Nat) := [none, none, none, none, none, none, none, none, none, none, none, none, none, none, none, none, none, none, none, none, none, none, none, none, none, none, none, none, none, none, none, none, none, none, none, none, none, none, none, none, none, none, none, none, none, none, none, none, none, none, none, none, none, none, none, none, none, none, none, none, none, none, none, none, none, none, none, none, none, none, none, none, none, none, none, none, none, none, none, none, none, none, none, none, none, none, none, none, none, none, none, none, none, none, none, none, none, none, none, none, none, some 0, some 1, some 2, some 3, some 4, some 5, some 6, some 7, some 8, some 9, some 10, some 11, some 13, none, none, none, none, none, none, none, none, none, none, none, none, none, none, none, none, none, none, none, none]
set_option maxRecDepth 100000 in
set_option maxHeartbeats 8000000 in
theorem rparse_any (A0 : Option Addr) (n0 c0 : Nat) (bs : List Int) (w : World) (hb : Nums .u8 w w.heap.size A0 n0 bs) (hy : ∀ x ∈ bs, Byte x) (hn : n0 ≤ 9000) (hnc : n0 ≤ c0) (hcm : c0 ≤ 9223372036854775807) :
    Calls Try.prog 16 #[.slice A0 n0 c0] w (PsR w bs) := by
  have hzv := zeroPkt
  have BZ0 := pk_zerobuilt
  obtain ⟨i0, hi0, hz0, hz1, hz2⟩ := info_parts byte_inf
  have T1 := Lib.hid hi0; have T2 := Lib.hid hz0; have T3 := Lib.hid hz1; have T4 := Lib.hid hz2
  obtain ⟨W1, hW1⟩ : ∃ W1, W1 = w.alloc (.cells (pktV zPkt none 0 0) 28) := ⟨_, rfl⟩
  have B1 := Lib.hid (show Below w.heap.size w W1 by rw [hW1]; exact alloc_below _ _)
  have R1 := Lib.hid (show W1.heap[w.heap.size]? = some (.cells (pktV zPkt none 0 0) 28 (0, 0)) by rw [hW1]; exact heap_alloc_new w _)
  have UZ := Lib.hid (pkC zPkt_ok none 0 0).info
  have OZ := Lib.hid (pkt_one zPkt none 0 0)
  have HL := Lib.hid hb.len
  have HY := Lib.hid hy
  have H9 := Lib.hid hn
  have HC := Lib.hid hnc
  have HM := Lib.hid hcm
  have HN := Lib.hid (fun w' (h : Below w.heap.size w w') => (hb.below h).more h.size)
  generalize hZ : pktV zPkt none 0 0 = Z at *
  have EZ := Lib.hid hZ
  have BZ := Lib.hid BZ0
  clear hZ BZ0 hi0 hz0 hz1 hz2
  have n9 : (n0 : Int) ≤ 9000 := by omega
  by_cases h40 : n0 < 40
  · have q40 : (n0 : Int) < 40 := by omega
    have E := Lib.hid (psE_0 (bs := bs) (by rw [HL.out]; exact h40))
    clear h40 hb hy hn hnc hcm
    go_enter Try.func16, Try.ntmps16
    go_upto_region 1 with fail
    rw [← hW1]
    clear hW1 hzv
    go_wp2_with (first
      | (refine adC.wpList_zero rfl 28 rfl Z BZ.out ?_)
      | (refine wpList_store_row rfl 28 (.tmp 2) (.tmp 16) rfl w.heap.size _ rfl rfl _ _ R1.out UZ.out rfl OZ.out ?_))
    refine bodyPost_ret (v := .tuple #[.agg Z, .int .i64 4]) (adC.results_cell_tmp Try.results16 _ _ w.heap.size _ _ _ _ _ (by rfl) (setRow_heap _ _ _ _ _ _ R1.out) Try.underlying28 rfl UZ.out (by rfl)) rfl ?_
    rw [← EZ.out]
    exact ps_err E.out (by decide) (fun_setRow B1.out)
  have q40 : ¬ (n0 : Int) < 40 := by omega
  have d40 : decide ((n0 : Int) < 40) = false := decide_eq_false q40
  obtain ⟨b, o, rfl, hlt, hcell⟩ := hb.at_ (by omega)
  have L40 := Lib.hid (show 40 ≤ bs.length by rw [hb.len]; omega)
  have c0h : W1.cell? ⟨b, o, none⟩ = some (.int .u8 (bs.getD 0 0)) := (B1.out.cell (p := ⟨b, o, none⟩) hlt).trans (hcell 0 (by omega))
  have bx := getD_bytes hy 0
  unfold Byte at bx
  obtain ⟨U, hU⟩ : ∃ U, U = bs.getD 0 0 / 16 := ⟨_, rfl⟩
  have EU := Lib.hid hU
  obtain ⟨x0, hx0⟩ : ∃ x, x = bs.getD 0 0 := ⟨_, rfl⟩
  rw [← hx0] at c0h hU bx
  have tU : x0.tdiv 16 = U := by rw [Int.tdiv_eq_ediv_of_nonneg (by omega)]; exact hU.symm
  have wU : IntKind.u8.wrap U = U := IntWalk.u8_in _ (by omega)
  have LB := Lib.hid hlt
  have CE := Lib.hid (fun k (hk : k < n0) w' (h : Below w.heap.size w w') => (show w'.cell? ⟨b, o + k, none⟩ = some (.int .u8 (bs.getD k 0)) from (h.cell (p := ⟨b, o + k, none⟩) hlt).trans (hcell k hk)))
  have L40n := Lib.hid (show 40 ≤ n0 by omega)
  have l40 : (40 : Int) ≤ (n0 : Int) := by omega
  clear hb hy hn hnc hcm hlt hcell hU hx0 bx h40 q40
  by_cases h6 : U = 6
  rotate_left
  · have q6 : (U == 6) = false := beq_eq_false_iff_ne.2 h6
    have E := Lib.hid (psE_1 L40.out (by rw [← EU.out]; exact h6))
    clear h6
    go_enter Try.func16, Try.ntmps16
    go_upto_region 1 with fail
    rw [← hW1]
    clear hW1 hzv
    go_wp2_with (first
      | (refine adC.wpList_zero rfl 28 rfl Z BZ.out ?_)
      | (refine wpList_store_row rfl 28 (.tmp 2) (.tmp 22) rfl w.heap.size _ rfl rfl _ _ R1.out UZ.out rfl OZ.out ?_))
    refine bodyPost_ret (v := .tuple #[.agg Z, .int .i64 11]) (adC.results_cell_tmp Try.results16 _ _ w.heap.size _ _ _ _ _ (by rfl) (setRow_heap _ _ _ _ _ _ R1.out) Try.underlying28 rfl UZ.out (by rfl)) rfl ?_
    rw [← EZ.out]
    exact ps_err E.out (by decide) (fun_setRow B1.out)
  have E6 := Lib.hid (show bs.getD 0 0 / 16 = 6 by rw [← EU.out]; exact h6)
  subst h6
  clear EU
  obtain ⟨tv0, tv1⟩ := w2_bd HY.out 4
  obtain ⟨N, hN⟩ : ∃ N, N = toldN bs := ⟨_, rfl⟩
  have eT : w2 bs 4 = (N : Int) := by rw [hN]; unfold toldN; omega
  have EN := Lib.hid hN
  have GT := Lib.hid (fun w' (h : Below w.heap.size w w') => (show Calls Try.prog 34 #[.slice (some ⟨b, o + 4, none⟩) 2 (c0 - 4)] w' (fun e w'' => e = .returned (.int .u64 (N : Int)) ∧ w' = w'') by
    have t := get2_at b o n0 c0 4 bs w' (HN.out w' h) HY.out (by have := L40n.out; omega) (c0 - 4) (by have := L40n.out; have := HC.out; omega) (by have := HM.out; omega)
    rw [eT] at t
    exact t))
  have sc4 := cut_at b o n0 c0 4 6 2 (c0 - 4) 4 6 rfl rfl (by decide) (by have := L40n.out; have := HC.out; omega) (by have := L40n.out; have := HC.out; omega) rfl rfl
  have wN : IntKind.i64.wrap (N : Int) = (N : Int) := IntWalk.i64_in _ (by omega)
  have nN : (N : Int) ≤ 65535 := by omega
  obtain ⟨L, hL⟩ : ∃ L, L = n0 - 40 := ⟨_, rfl⟩
  have eL : (n0 : Int) - 40 = (L : Int) := by have := L40n.out; omega
  have wL : IntKind.i64.wrap (L : Int) = (L : Int) := IntWalk.i64_in _ (by omega)
  have EL := Lib.hid hL
  clear tv0 tv1 eT hN hL
  by_cases hl : L < N
  · have qL : (L : Int) < (N : Int) := by omega
    have E := Lib.hid (psE_2 L40.out E6.out (by rw [← EN.out, HL.out]; have := EL.out; have := L40n.out; omega))
    go_enter Try.func16, Try.ntmps16
    go_upto_region 1 with fail
    rw [← hW1]
    clear hW1 hzv
    go_wp2_with (first
      | (go_at_call 34; (refine (GT.out _ B1.out).mono ?_); rintro e w' ⟨rfl, rfl⟩)
      | (refine adC.wpList_zero rfl 28 rfl Z BZ.out ?_)
      | (refine wpList_store_row rfl 28 (.tmp 2) (.tmp 32) rfl w.heap.size _ rfl rfl _ _ R1.out UZ.out rfl OZ.out ?_))
    refine bodyPost_ret (v := .tuple #[.agg Z, .int .i64 4]) (adC.results_cell_tmp Try.results16 _ _ w.heap.size _ _ _ _ _ (by rfl) (setRow_heap _ _ _ _ _ _ R1.out) Try.underlying28 rfl UZ.out (by rfl)) rfl ?_
    rw [← EZ.out]
    exact ps_err E.out (by decide) (fun_setRow B1.out)
  have qL : ¬ (L : Int) < (N : Int) := by omega
  have dL : decide (L < N) = false := decide_eq_false hl
  have LN := Lib.hid (show 40 + N ≤ n0 by have := EL.out; have := L40n.out; omega)
  have L3 := Lib.hid (show 40 + toldN bs ≤ bs.length by rw [← EN.out, HL.out]; exact LN.out)
  clear hl qL
  obtain ⟨sa, hsa⟩ : ∃ a, a = (bs.drop 8).take 16 := ⟨_, rfl⟩
  obtain ⟨da, hda⟩ : ∃ a, a = (bs.drop 24).take 16 := ⟨_, rfl⟩
  have OF8 := Lib.hid (fun w' (h : Below w.heap.size w w') => of16_at b o n0 8 bs w' (HN.out w' h) (by have := L40n.out; omega) (c0 - 8))
  have OF24 := Lib.hid (fun w' (h : Below w.heap.size w w') => of16_at b o n0 24 bs w' (HN.out w' h) (by have := L40n.out; omega) (c0 - 24))
  rw [← hsa] at OF8
  rw [← hda] at OF24
  have sc8 := cut_at b o n0 c0 8 24 16 (c0 - 8) 8 24 rfl rfl (by decide) (by have := L40n.out; have := HC.out; omega) (by have := L40n.out; have := HC.out; omega) rfl rfl
  have sc24 := cut_at b o n0 c0 24 40 16 (c0 - 24) 24 40 rfl rfl (by decide) (by have := L40n.out; have := HC.out; omega) (by have := L40n.out; have := HC.out; omega) rfl rfl
  have LSA := Lib.hid (show sa.length = 16 by rw [hsa, List.length_take, List.length_drop]; have := L40.out; omega)
  have LDA := Lib.hid (show da.length = 16 by rw [hda, List.length_take, List.length_drop]; have := L40.out; omega)
  have YSA := Lib.hid (show ∀ x ∈ sa, Byte x from fun x hx => HY.out x (by rw [hsa] at hx; exact List.mem_of_mem_drop (List.mem_of_mem_take hx)))
  have YDA := Lib.hid (show ∀ x ∈ da, Byte x from fun x hx => HY.out x (by rw [hda] at hx; exact List.mem_of_mem_drop (List.mem_of_mem_take hx)))
  have UA := Lib.hid (adr_info true LSA.out)
  have UD := Lib.hid (adr_info true LDA.out)
  have SZA := Lib.hid (z_size true LSA.out)
  have SZD := Lib.hid (z_size true LDA.out)
  have OA := Lib.hid (adrV_one true sa)
  have OD := Lib.hid (adrV_one true da)
  obtain ⟨y, hyy⟩ : ∃ y, y = bs.getD 6 0 := ⟨_, rfl⟩
  obtain ⟨ho, hho⟩ : ∃ y, y = bs.getD 7 0 := ⟨_, rfl⟩
  have KB := Lib.hid (pk_rbuilt LSA.out LDA.out ho y)
  have bho := getD_bytes HY.out 7
  have bhy := getD_bytes HY.out 6
  rw [← hho] at bho
  rw [← hyy] at bhy
  have K0 := Lib.hid (show (⟨true, sa, true, da, y, ho, 0, true, false, 0⟩ : Pkt).Ok from ⟨LSA.out, LDA.out, YSA.out, YDA.out, bhy, bho, (show (0 : Int) ≤ 0 ∧ (0 : Int) ≤ 4294967295 by decide), (show (-9223372036854775808 : Int) ≤ 0 ∧ (0 : Int) ≤ 9223372036854775807 by decide)⟩)
  have I0 := Lib.hid (pkC K0.out none 0 0).info
  have J0 := Lib.hid (show Z.size = (pktV ⟨true, sa, true, da, y, ho, 0, true, false, 0⟩ none 0 0).size by rw [← EZ.out]; exact (pkC zPkt_ok none 0 0).size.trans (pkC K0.out none 0 0).size.symm)
  have Q0 := Lib.hid (pkt_one ⟨true, sa, true, da, y, ho, 0, true, false, 0⟩ none 0 0)
  have C7 := Lib.hid (fun w' (h : Below w.heap.size w w') => CE.out 7 (by have := L40n.out; omega) w' h)
  have C6 := Lib.hid (fun w' (h : Below w.heap.size w w') => CE.out 6 (by have := L40n.out; omega) w' h)
  rw [← hho] at C7
  rw [← hyy] at C6
  have EPKH := Lib.hid (show pkOf bs = { finP ⟨true, sa, true, da, y, ho, 0, true, false, 0⟩ (hdOf bs) with proto := (hdOf bs).proto } by unfold pkOf finP; rw [hsa, hda, hho])
  have EHD := Lib.hid (show hdrs 8 true y ((bs.drop 40).take N) = hdOf bs by unfold hdOf; rw [hyy, EN.out])
  obtain ⟨p0, hp0⟩ : ∃ p0 : Pkt, p0 = ⟨true, sa, true, da, y, ho, 0, true, false, 0⟩ := ⟨_, rfl⟩
  have EP0 := Lib.hid hp0
  rw [← hp0] at K0 I0 J0 Q0 KB EPKH
  have FR0 := Lib.hid (show Fresh p0 by rw [hp0]; exact ⟨rfl, rfl, rfl, rfl⟩)
  have PY0 := Lib.hid (show p0.proto = y by rw [hp0])
  obtain ⟨V0, hV0⟩ : ∃ V0, V0 = pktV p0 none 0 0 := ⟨_, rfl⟩
  rw [← hV0] at I0 J0 Q0 KB
  have EV0 := Lib.hid hV0.symm
  have SZ40 := Lib.hid (show (bs.drop 40).length = n0 - 40 by rw [List.length_drop, HL.out])
  generalize hAS : adrV true sa = SA at *
  generalize hAD : adrV true da = DA at *
  clear hAS hAD hsa hda hyy hho hp0 hV0 bho bhy nN
  have nN : (N : Int) ≤ 9000 := by have := LN.out; omega
  have hzA := zeroAdr
  generalize hZA : zAdr = ZA at *
  clear hZA
  go_enter Try.func16, Try.ntmps16
  go_upto_region 1 with fail
  rw [← hW1]
  clear hW1
  go_upto_region 8 with (first
    | (go_at_call 34; (refine (GT.out _ B1.out).mono ?_); rintro e w' ⟨rfl, rfl⟩))
  clear c0h tU wU sc4 wN eL wL dL GT
  go_upto_region 9 with (first
    | (go_at_call 35; (refine (OF8.out _ B1.out).mono ?_); rintro e w2 ⟨rfl, BB⟩
       have B2 := Lib.hid (B1.out.trans (BB.mono B1.out.size))
       have R2 := Lib.hid (show w2.heap[w.heap.size]? = some (.cells Z 28 (0, 0)) by rw [BB.block _ (lt_of_row R1.out)]; exact R1.out)
       have RN := Lib.hid (show (w2.alloc (.cells ZA 24)).heap[w2.heap.size]? = some (.cells ZA 24 (0, 0)) from heap_alloc_new w2 _)
       clear BB)
    | (refine wpList_store_row rfl 24 (.tmp 5) (.tmp 37) rfl w2.heap.size SA rfl rfl _ _ RN.out UA.out SZA.out OA.out ?_))
  rw [World.setRow_alloc_new]
  have BA := Lib.hid (alloc_below w2 (.cells SA 24))
  have B3 := Lib.hid (B2.out.trans (BA.out.mono B2.out.size))
  have R3 := Lib.hid (show (w2.alloc (.cells SA 24)).heap[w.heap.size]? = some (.cells Z 28 (0, 0)) by rw [BA.out.block _ (lt_of_row R2.out)]; exact R2.out)
  have S3 := Lib.hid (show (w2.alloc (.cells SA 24)).heap[w2.heap.size]? = some (.cells SA 24 (0, 0)) from heap_alloc_new w2 _)
  clear BA B2 R2 RN B1 R1 sc8 OF8
  obtain ⟨g5, hg5⟩ : ∃ g, g = w2.heap.size := ⟨_, rfl⟩
  rw [← hg5] at S3
  generalize w2.alloc (.cells SA 24) = w3 at *
  rw [← hg5]
  clear hg5
  go_upto_region 10 with (first
    | (go_at_call 35; (refine (OF24.out _ B3.out).mono ?_); rintro e w4' ⟨rfl, BB⟩
       have B4 := Lib.hid (B3.out.trans (BB.mono B3.out.size))
       have R4 := Lib.hid (show w4'.heap[w.heap.size]? = some (.cells Z 28 (0, 0)) by rw [BB.block _ (lt_of_row R3.out)]; exact R3.out)
       have S4 := Lib.hid (show w4'.heap[g5]? = some (.cells SA 24 (0, 0)) by rw [BB.block _ (lt_of_row S3.out)]; exact S3.out)
       have RN := Lib.hid (show (w4'.alloc (.cells ZA 24)).heap[w4'.heap.size]? = some (.cells ZA 24 (0, 0)) from heap_alloc_new w4' _)
       clear BB)
    | (refine wpList_store_row rfl 24 (.tmp 7) (.tmp 43) rfl w4'.heap.size DA rfl rfl _ _ RN.out UD.out SZD.out OD.out ?_))
  rw [World.setRow_alloc_new]
  have BA := Lib.hid (alloc_below w4' (.cells DA 24))
  have B5 := Lib.hid (B4.out.trans (BA.out.mono B4.out.size))
  have R5' := Lib.hid (show (w4'.alloc (.cells DA 24)).heap[w.heap.size]? = some (.cells Z 28 (0, 0)) by rw [BA.out.block _ (lt_of_row R4.out)]; exact R4.out)
  have S5 := Lib.hid (show (w4'.alloc (.cells DA 24)).heap[g5]? = some (.cells SA 24 (0, 0)) by rw [BA.out.block _ (lt_of_row S4.out)]; exact S4.out)
  have D5 := Lib.hid (show (w4'.alloc (.cells DA 24)).heap[w4'.heap.size]? = some (.cells DA 24 (0, 0)) from heap_alloc_new w4' _)
  clear BA B4 R4 RN B3 R3 S3 S4 sc24 OF24 hzA
  obtain ⟨g7, hg7⟩ : ∃ g, g = w4'.heap.size := ⟨_, rfl⟩
  rw [← hg7] at D5
  generalize w4'.alloc (.cells DA 24) = Wr at *
  rw [← hg7]
  clear hg7
  obtain ⟨Bq, hBq⟩ : ∃ B, B = Wr.heap.size := ⟨_, rfl⟩
  have BQ := Lib.hid hBq
  have R5 := Lib.hid (show g5 < Bq ∧ Wr.heap[g5]? = some (.cells SA 24 (0, 0)) from ⟨by rw [hBq]; exact lt_of_row S5.out, S5.out⟩)
  have R7 := Lib.hid (show g7 < Bq ∧ Wr.heap[g7]? = some (.cells DA 24 (0, 0)) from ⟨by rw [hBq]; exact lt_of_row D5.out, D5.out⟩)
  have L40z := Lib.hid l40
  have C7w := Lib.hid (fun w' (h : GrB Bq Wr w') => C7.out w' (B5.out.trans (h.1.mono (by have := B5.out.size; have := BQ.out; omega))))
  have C6w := Lib.hid (fun w' (h : GrB Bq Wr w') => C6.out w' (B5.out.trans (h.1.mono (by have := B5.out.size; have := BQ.out; omega))))
  clear C7 C6 hBq l40
  refine with_act fun a0 ha0 => ?_
  have hl : biT.length = a0.tmps.size := by rw [ha0]; rfl
  have k0 : a0.tmps[0]?.getD undef = .slice (some ⟨b, o, none⟩) n0 c0 := by rw [ha0]; rfl
  have k5 : a0.tmps[5]?.getD undef = .pointer (some ⟨g5, 0, none⟩) := by rw [ha0]; rfl
  have k7 : a0.tmps[7]?.getD undef = .pointer (some ⟨g7, 0, none⟩) := by rw [ha0]; rfl
  refine wp_region_che (by kernel_rfl) biT (by kernel_rfl) (by kernel_rfl) hl (fun i => undef) (by rw [ha0]; rfl) (0) (Below Bq) [9, 10] (by kernel_rfl) (by decide) (by decide) (fun w' => GrB Bq Wr w') (biV b o n0 c0 g5 g7 SA DA V0 ho y) (biR w Bq V0) (Nat.zero_le _) ⟨(Below.refl _ _).drew.mono (Nat.le_of_eq BQ.out), Nat.le_of_eq BQ.out⟩ trivial (fun w1 w2 hb hd h => h.keep hd) (fun i v w w' _ hd h => biV.keep _ _ _ _ _ _ _ _ _ _ _ i v w w' trivial h) (fun k us us' w w' h _ hb hR => biR.keep _ _ _ k us us' w w' h hb hR) ⟨?_, ?_, ?_, ?_, ?_, ?_, ?_, ?_, ?_, ?_, ?_, trivial⟩ ?_
  · refine stepE_val [] (by kernel_rfl) (by decide) (by decide) rfl fun us w' hB hG hV => ?_
    have o5 := (frame_old2 (us := us) (a := a0) (show (biT[5]?).join = none from rfl)).trans k5
    have hg1 := (hG.trans_row R5.out)
    generalize frame biT a0 us = fr at *
    exact load_C 24 5 rfl (g5) o5 _ _ (0, 0) _ hg1 Try.underlying24 rfl UA.out rfl
  · refine stepE_val [] (by kernel_rfl) (by decide) (by decide) rfl fun us w' hB hG hV => ?_
    have o7 := (frame_old2 (us := us) (a := a0) (show (biT[7]?).join = none from rfl)).trans k7
    have hg1 := (hG.trans_row R7.out)
    generalize frame biT a0 us = fr at *
    exact load_C 24 7 rfl (g7) o7 _ _ (0, 0) _ hg1 Try.underlying24 rfl UD.out rfl
  · refine stepE_val [] (by kernel_rfl) (by decide) (by decide) rfl fun us w' hB hG hV => ?_
    have o0 := (frame_old2 (us := us) (a := a0) (show (biT[0]?).join = none from rfl)).trans k0
    generalize frame biT a0 us = fr at *
    exact val_C (v := .slice (some ⟨b, o, none⟩) n0 c0) (w' := w') (by go_simp) (Below.refl _ _) rfl
  · refine stepE_val [2] (by kernel_rfl) (by decide) (by decide) rfl fun us w' hB hG hV => ?_
    have e2 : us 2 = .slice (some ⟨b, o, none⟩) n0 c0 := hV 2 (by simp)
    have v2 := (frame_at2 (us := us) hl (show (biT[47]?).join = some 2 from rfl)).trans e2
    have lz : (7 : Int) < (n0 : Int) := by have := L40n.out; omega
    generalize frame biT a0 us = fr at *
    exact val_C (v := .pointer (some ⟨b, o + 7, none⟩)) (w' := w') (by go_simp) (Below.refl _ _) rfl
  · refine stepE_val [3] (by kernel_rfl) (by decide) (by decide) rfl fun us w' hB hG hV => ?_
    have e3 : us 3 = .pointer (some ⟨b, o + 7, none⟩) := hV 3 (by simp)
    have v3 := (frame_at2 (us := us) hl (show (biT[48]?).join = some 3 from rfl)).trans e3
    have hc := C7w.out w' hG
    generalize frame biT a0 us = fr at *
    exact val_C (v := .int .u8 ho) (w' := w') (by go_simp) (Below.refl _ _) rfl
  · refine stepE_val [] (by kernel_rfl) (by decide) (by decide) rfl fun us w' hB hG hV => ?_
    have o0 := (frame_old2 (us := us) (a := a0) (show (biT[0]?).join = none from rfl)).trans k0
    generalize frame biT a0 us = fr at *
    exact val_C (v := .slice (some ⟨b, o, none⟩) n0 c0) (w' := w') (by go_simp) (Below.refl _ _) rfl
  · refine stepE_val [5] (by kernel_rfl) (by decide) (by decide) rfl fun us w' hB hG hV => ?_
    have e5 : us 5 = .slice (some ⟨b, o, none⟩) n0 c0 := hV 5 (by simp)
    have v5 := (frame_at2 (us := us) hl (show (biT[50]?).join = some 5 from rfl)).trans e5
    have lz : (6 : Int) < (n0 : Int) := by have := L40n.out; omega
    generalize frame biT a0 us = fr at *
    exact val_C (v := .pointer (some ⟨b, o + 6, none⟩)) (w' := w') (by go_simp) (Below.refl _ _) rfl
  · refine stepE_val [6] (by kernel_rfl) (by decide) (by decide) rfl fun us w' hB hG hV => ?_
    have e6 : us 6 = .pointer (some ⟨b, o + 6, none⟩) := hV 6 (by simp)
    have v6 := (frame_at2 (us := us) hl (show (biT[51]?).join = some 6 from rfl)).trans e6
    have hc := C6w.out w' hG
    generalize frame biT a0 us = fr at *
    exact val_C (v := .int .u8 y) (w' := w') (by go_simp) (Below.refl _ _) rfl
  · refine stepE_val [0, 1, 4, 7] (by kernel_rfl) (by decide) (by decide) rfl fun us w' hB hG hV => ?_
    have e0 : us 0 = .agg SA := hV 0 (by simp)
    have v0 := (frame_at2 (us := us) hl (show (biT[45]?).join = some 0 from rfl)).trans e0
    have e1 : us 1 = .agg DA := hV 1 (by simp)
    have v1 := (frame_at2 (us := us) hl (show (biT[46]?).join = some 1 from rfl)).trans e1
    have e4 : us 4 = .int .u8 ho := hV 4 (by simp)
    have v4 := (frame_at2 (us := us) hl (show (biT[49]?).join = some 4 from rfl)).trans e4
    have e7 : us 7 = .int .u8 y := hV 7 (by simp)
    have v7 := (frame_at2 (us := us) hl (show (biT[52]?).join = some 7 from rfl)).trans e7
    generalize frame biT a0 us = fr at *
    exact val_C (v := .agg V0) (w' := w') (built5_run rfl (eval_tmp v0) (eval_tmp v1) (eval_tmp v4) (eval_tmp v7) (by rfl) KB.out) (Below.refl _ _) rfl
  · refine stepE_chain 0 rfl (by decide) [] (by kernel_rfl) (by decide) rfl fun us w' hB hG hV hR => ?_
    have hBw : Bq ≤ w'.heap.size := hG.bsize BQ.out
    generalize frame biT a0 us = fr at *
    exact val_J (R := fun v w'' => (Below Bq w' w'' ∧ Below 0 w' w'') ∧ biR w Bq V0 1 (upd us 9 v) w'') (v := .pointer (some ⟨w'.heap.size, 0, none⟩)) (w' := w'.alloc (.cells Z 28)) (by have hz := hzv; go_simp) ⟨below_any ((alloc_below w' _).mono hBw), w'.heap.size, upd_same _ _ _, hBw, by rw [EZ.out]; exact heap_alloc_new _ _⟩
  · refine stepE_chain 1 rfl (by decide) [8] (by kernel_rfl) (by decide) rfl fun us w' hB hG hV hR => ?_
    have e8 : us 8 = .agg V0 := hV 8 (by simp)
    have v8 := (frame_at2 (us := us) hl (show (biT[53]?).join = some 8 from rfl)).trans e8
    obtain ⟨g, e9, hgb, hgr⟩ : ∃ g, us 9 = .pointer (some ⟨g, 0, none⟩) ∧ Bq ≤ g ∧ w'.heap[g]? = some (.cells (pktV zPkt none 0 0) 28 (0, 0)) := hR
    have v9 := (frame_at2 (us := us) hl (show (biT[9]?).join = some 9 from rfl)).trans e9
    rw [EZ.out] at hgr
    generalize frame biT a0 us = fr at *
    exact store_J (R := fun v w'' => (Below Bq w' w'' ∧ Below 0 w' w'') ∧ biR w Bq V0 2 (upd us 10 v) w'') 28 9 53 rfl g V0 v9 v8 _ _ hgr I0.out J0.out Q0.out ⟨below_any ⟨rfl, rfl, rfl, by simp, fun k hk => setRow_other _ _ _ _ (by omega)⟩, g, by rw [upd_other _ _ (by decide)]; exact e9, hgb, setRow_heap _ _ _ _ _ _ hgr⟩
  · intro us w6 hB2 hG hV hR
    obtain ⟨g, e9, hgb, hgr⟩ : ∃ g, us 9 = .pointer (some ⟨g, 0, none⟩) ∧ Bq ≤ g ∧ w6.heap[g]? = some (.cells V0 28 (0, 0)) := hR
    have HB6 := Lib.hid (show Below w.heap.size w w6 from B5.out.trans (hG.1.mono (by have := B5.out.size; have := BQ.out; omega)))
    have RZ6 := Lib.hid (show w6.heap[w.heap.size]? = some (.cells Z 28 (0, 0)) from hG.trans_row ⟨by rw [BQ.out]; exact lt_of_row R5'.out, R5'.out⟩)
    have RG6 := Lib.hid hgr
    have LG := Lib.hid (show w.heap.size < g by have := lt_of_row R5'.out; have := BQ.out; omega)
    subst ha0
    simp only [frame, biT, fill]
    rw [e9]
    clear hV hG hl k0 k5 k7 e9 hgb hgr
    generalize us 0 = x0' at *
    generalize us 1 = x1' at *
    generalize us 2 = x2' at *
    generalize us 3 = x3' at *
    generalize us 4 = x4' at *
    generalize us 5 = x5' at *
    generalize us 6 = x6' at *
    generalize us 7 = x7' at *
    generalize us 8 = x8' at *
    clear us
    clear R5 R7 S5 D5 R5' B5 UA UD SZA SZD OA OD KB I0 J0 Q0 C6w C7w L40z BQ hzv
    obtain ⟨M, hM⟩ : ∃ M, M = 40 + N := ⟨_, rfl⟩
    have eM : (40 : Int) + (N : Int) = (M : Int) := by omega
    have wM : IntKind.i64.wrap (M : Int) = (M : Int) := IntWalk.i64_in _ (by omega)
    obtain ⟨Ar, hAr⟩ : ∃ Ar, Ar = (if c0 = 40 then some (⟨b, o, none⟩ : Addr) else (some (⟨b, o, none⟩ : Addr)).map (·.add 40)) := ⟨_, rfl⟩
    have sc40 := cut_zz (some ⟨b, o, none⟩) n0 c0 40 M N (c0 - 40) 40 M rfl rfl (by omega) (by have := LN.out; have := HC.out; omega) (by omega) rfl Ar hAr
    obtain ⟨X, hX⟩ : ∃ X, X = (bs.drop 40).take N := ⟨_, rfl⟩
    have lX : X.length = N := by rw [hX, List.length_take, SZ40.out]; have := LN.out; omega
    have S0 := Lib.hid (show LpR w g p0 (hdOf bs) 0 Ar (c0 - 40) X w6 from .inl ⟨y, by decide, ⟨by rw [lX]; have := LN.out; have := HC.out; omega, by have := HM.out; omega, by
        rw [lX, hAr, hX]
        have t := (HN.out w (Below.refl _ _)).cut (j := 40) (by have := L40n.out; omega) HC.out
        exact ((t.upto (j := N) (by have := LN.out; omega)).below HB6.out), fun x hx => HY.out x (by rw [hX] at hx; exact List.mem_of_mem_drop (List.mem_of_mem_take hx)), by rw [lX]; have := LN.out; have := H9.out; omega, HB6.out, by rw [EZ.out]; exact RZ6.out, by rw [show ({ p0 with proto := y } : Pkt) = p0 by rw [← PY0.out], EV0.out]; exact RG6.out, LG.out, by rw [show ({ p0 with proto := y } : Pkt) = p0 by rw [← PY0.out]]; exact K0.out⟩, by rw [hX]; exact EHD.out⟩)
    have LXN := Lib.hid lX
    clear hX lX hAr hM
    go_upto_region 11 with fail
    go_upto_region 12 with fail
    clear sc40 eM wM
    obtain ⟨C0, hC0⟩ : ∃ C, C = c0 - 40 := ⟨_, rfl⟩
    rw [← hC0] at S0
    obtain ⟨H, hH⟩ : ∃ H, H = hdOf bs := ⟨_, rfl⟩
    rw [← hH] at S0 EPKH
    have EH := Lib.hid hH
    clear hH
    have EFN := Lib.hid (fun (c : Int) (hc : c ≠ 0) (h : H = badH c) => (show psE bs = c by
      have t := psE_3 L40.out E6.out L3.out (by rw [← EH.out, h]; exact hc)
      rw [t, ← EH.out, h]; rfl))
    go_wp2_with fail
    go_loopw [10, 11] (fun rv iv wr => ∃ (i : Nat) (A : Option Addr) (c : Nat) (Y : List Int), i ≤ 9 ∧ iv = .int .i64 i ∧ rv = .slice A Y.length c ∧ LpR w g p0 H i A c Y wr) (fun _ iv _ => 10 - (intOf iv).toNat)
    case atStart => exact ⟨0, Ar, C0, X, by omega, rfl, by rw [LXN.out, hC0], S0.out⟩
    case round =>
      obtain ⟨i, A1, cr, X1, hi, rfl, rfl, hrl⟩ := hrel
      clear S0 LXN hC0
      rcases hrl with ⟨y1, hi8, S, hH⟩ | ⟨h1, h2, hX, S⟩
      · obtain ⟨p, hp⟩ : ∃ p : Pkt, p = { p0 with proto := y1 } := ⟨_, rfl⟩
        rw [← hp] at S
        have HS := Lib.hid S
        have k34 := S.cell (pkC S.ok none 0 0).proto
        have k37 := S.cell (pkC S.ok none 0 0).whole
        have ew : p.whole = true := by rw [hp]; exact FR0.out.1
        have ey : p.proto = y1 := by rw [hp]
        rw [ew] at k37
        rw [ey] at k34
        have EP := Lib.hid hp
        have HH := Lib.hid hH
        have KN := Lib.hid (known_any y1 wr)
        obtain ⟨kb, hkb⟩ : ∃ kb, kb = knownB y1 := ⟨_, rfl⟩
        rw [← hkb] at KN
        have EK := Lib.hid hkb.symm
        have RW := Lib.hid S.res
        rw [EZ.out] at RW
        have SBL := Lib.hid S.bel
        clear S hH hkb ew ey hp
        cases kb
        · have e1 := HH.out.symm.trans (hdrs_no _ _ X1 EK.out)
          have epk : pkOf bs = p := by rw [EPKH.out, e1, fin_done FR0.out, EP.out]; rfl
          have exx : X1 = (hdOf bs).rest := by rw [← EH.out, e1]; rfl
          have ehe : (hdOf bs).e = 0 := by rw [← EH.out, e1]; rfl
          clear e1 HH EK RW SBL EP hi hi8
          have EPK := Lib.hid epk
          have EXX := Lib.hid exx
          have EHE := Lib.hid ehe
          clear epk exx ehe
          have c40 := HS.out.cell (pkC HS.out.ok none 0 0).load
          have f40 := HS.out.frozen 40
          have NR := Lib.hid HS.out.nums
          have LX := Lib.hid (show X1.length ≤ 9000 from HS.out.len)
          obtain ⟨n, hn⟩ : ∃ n, n = X1.length := ⟨_, rfl⟩
          have EN2 := Lib.hid hn
          rw [← hn] at NR LX
          have SB := Lib.hid HS.out.bel
          have LW := Lib.hid (lt_of_row HS.out.pk)
          have RP := Lib.hid HS.out.pk
          have RZ := Lib.hid HS.out.res
          rw [EZ.out] at RZ
          have POK := Lib.hid HS.out.ok
          have LG := Lib.hid HS.out.lt
          have ln : (n : Int) ≤ 9000 := by have := LX.out; omega
          have UPP := Lib.hid (fun A c => (pkC POK.out A n c).info)
          have SPP := Lib.hid (fun A c => (show Z.size = (pktV p A n c).size by rw [← EZ.out]; exact (pkC zPkt_ok none 0 0).size.trans (pkC POK.out A n c).size.symm))
          have OPP := Lib.hid (fun A c => pkt_one p A n c)
          have MM := Lib.hid (fun A c w' => rmay_any p A n c w' POK.out (by have := LX.out; omega))
          obtain ⟨my, hmy⟩ : ∃ my, my = mayS p n := ⟨_, rfl⟩
          rw [← hmy] at MM
          have EMY := Lib.hid hmy
          rw [← hn]
          clear hmy hn HS
          go_upto_region 31 with (first
            | (go_at_call 28; (refine KN.out.mono ?_); rintro e w' ⟨rfl, rfl⟩)
            | (at_builtin; (refine wpList_app _ rfl (.const (.slice none 0 0)) (.tmp 126) _ rfl 5 i0 _ 1 Try.underlying26 T1.out T2.out T3.out T4.out rfl wr.heap.size _ [] rfl (Own.nil _ wr.heap.size) _ _ n cr X1 rfl NR.out (by have := LX.out; simp only [maxLen, List.length_nil]; omega) (by have := LX.out; simp only [List.length_nil]; omega) (Nat.le_refl _) ?_)
               intro v' wv O' hg'
               have BG : Below wr.heap.size wr wv := Below.grown (Below.refl _ _) hg' (Nat.le_refl _) fun g hg => by cases hg
               obtain ⟨A', c', ev, _, _, _⟩ := O'.form
               simp only [List.nil_append] at ev O'
               rw [← EN2.out] at ev
               subst ev
               have OV := Lib.hid O'
               have BV := Lib.hid BG
               have c41 := (BG.cell (p := ⟨g, 40, none⟩) LW.out).trans c40
               have f41 := (BG.frozen (p := ⟨g, 40, none⟩) LW.out).trans f40
               have RPV := Lib.hid (show wv.heap[g]? = some (.cells (pktV p none 0 0) 28 (0, 0)) by rw [BG.block _ LW.out]; exact RP.out)
               clear O' hg' BG))
          have RP5 := Lib.hid (show (wv.setCell ⟨g, 40, none⟩ (.slice A' n c')).heap[g]? = some (.cells (pktV p A' n c') 28 (0, 0)) by
            have e := heap_setCell_same wv g 40 _ _ (.slice A' n c') RPV.out
            rw [e, pkt_set POK.out none 0 0 6 (.slice A' n c') p rfl rfl rfl rfl A' n c' rfl])
          have OV5 := Lib.hid (show Own .u8 5 (wv.setCell ⟨g, 40, none⟩ (.slice A' n c')) wr.heap.size (.slice A' n c') X1 from OV.out.keep fun k h1 h2 => Below.heap_setCell _ _ _ _ (show k ≠ g by have := LW.out; omega))
          have SB5 := Lib.hid (show Below w.heap.size w (wv.setCell ⟨g, 40, none⟩ (.slice A' n c')) from (SB.out.trans (BV.out.mono SB.out.size)).trans ((Below.refl _ _).setCell (p := ⟨g, 40, none⟩) (by have := LG.out; show w.heap.size ≤ g; omega) _))
          have RZ5 := Lib.hid (show (wv.setCell ⟨g, 40, none⟩ (.slice A' n c')).heap[w.heap.size]? = some (.cells Z 28 (0, 0)) from (Below.heap_setCell _ _ _ _ (show w.heap.size ≠ g by have := LG.out; omega)).trans (by rw [BV.out.block _ (lt_of_row RZ.out)]; exact RZ.out))
          clear RPV OV BV RP RZ SB c40 f40 c41 f41 NR
          generalize wv.setCell ⟨g, 40, none⟩ (.slice A' n c') = w5 at *
          have UP := Lib.hid (UPP.out A' c')
          have SP := Lib.hid (SPP.out A' c')
          have OP := Lib.hid (OPP.out A' c')
          have M5 := Lib.hid (MM.out A' c')
          obtain ⟨PK, hPK⟩ : ∃ PK, PK = pktV p A' n c' := ⟨_, rfl⟩
          rw [← hPK] at UP SP OP M5 RP5
          have EPV := Lib.hid hPK
          clear hPK UPP SPP OPP MM
          have ERL := Lib.hid (show (hdOf bs).rest.length = n by rw [← EXX.out, EN2.out])
          cases my
          · have E := Lib.hid (psE_4 L40.out E6.out L3.out EHE.out (by rw [EPK.out, ERL.out]; exact EMY.out.symm))
            go_wp2_with (first
              | (refine wpList_load_row rfl 28 (.tmp 9) rfl g rfl _ _ _ _ RP5.out Try.underlying28 rfl UP.out ?_)
              | (go_at_call 14; (refine (M5.out _).mono ?_); rintro e v7 ⟨rfl, BB⟩
                 have RZ6 := Lib.hid (show v7.heap[w.heap.size]? = some (.cells Z 28 (0, 0)) by rw [BB.block _ (lt_of_row RZ5.out)]; exact RZ5.out)
                 have SB6 := Lib.hid (SB5.out.trans (BB.mono SB5.out.size))
                 clear BB)
              | (refine adC.wpList_zero rfl 28 rfl Z BZ.out ?_)
              | (refine wpList_store_row rfl 28 (.tmp 2) (.tmp 132) rfl w.heap.size _ rfl rfl _ _ RZ6.out UZ.out rfl OZ.out ?_))
            refine bodyPost_ret (v := .tuple #[.agg Z, .int .i64 3]) (adC.results_cell_tmp Try.results16 _ _ w.heap.size _ _ _ _ _ (by rfl) (setRow_heap _ _ _ _ _ _ RZ6.out) Try.underlying28 rfl UZ.out (by rfl)) rfl ?_
            rw [← EZ.out]
            exact ps_err E.out (by decide) (fun_setRow SB6.out)
          · have E := Lib.hid (psE_mk L40.out E6.out L3.out EHE.out (by rw [EPK.out, ERL.out]; exact EMY.out.symm))
            go_wp2_with (first
              | (refine wpList_load_row rfl 28 (.tmp 9) rfl g rfl _ _ _ _ (by first | exact RP5.out | exact RP6.out) Try.underlying28 rfl UP.out ?_)
              | (go_at_call 14; (refine (M5.out _).mono ?_); rintro e v7 ⟨rfl, BB⟩
                 have RZ6 := Lib.hid (show v7.heap[w.heap.size]? = some (.cells Z 28 (0, 0)) by rw [BB.block _ (lt_of_row RZ5.out)]; exact RZ5.out)
                 have RP6 := Lib.hid (show v7.heap[g]? = some (.cells PK 28 (0, 0)) by rw [BB.block _ (lt_of_row RP5.out)]; exact RP5.out)
                 have OV6 := Lib.hid (OV5.out.below BB)
                 have SB6 := Lib.hid (SB5.out.trans (BB.mono SB5.out.size))
                 clear BB)
              | (refine wpList_store_row rfl 28 (.tmp 2) (.tmp 133) rfl w.heap.size _ rfl rfl _ _ RZ6.out UP.out SP.out OP.out ?_))
            refine bodyPost_ret (v := .tuple #[.agg PK, .int .i64 0]) (adC.results_cell_tmp Try.results16 _ _ w.heap.size _ _ _ _ _ (by rfl) (setRow_heap _ _ _ _ _ _ RZ6.out) Try.underlying28 rfl UP.out (by rfl)) rfl ?_
            have e1 : psP bs = p := by unfold psP; rw [if_pos E.out]; exact EPK.out
            have e2 : psX bs = X1 := by unfold psX; rw [if_pos E.out]; exact EXX.out.symm
            refine ⟨A', n, c', by rw [e1, E.out, EPV.out], ?_, fun_setRow SB6.out⟩
            rw [e2]
            have OO : Own .u8 5 (v7.setRow w.heap.size PK) wr.heap.size (.slice A' n c') X1 := OV6.out.keep fun k h1 h2 => setRow_other _ _ _ _ (show k ≠ w.heap.size by have := LW.out; have := LG.out; omega)
            exact OO.nums
        by_cases h8 : i = 8
        · subst h8
          have E := Lib.hid (EFN.out 5 (by decide) (HH.out.symm.trans (hdrs_many _ X1 EK.out)))
          go_wp2_with (first
            | (go_at_call 28; (refine KN.out.mono ?_); rintro e w' ⟨rfl, rfl⟩)
            | (refine adC.wpList_zero rfl 28 rfl Z BZ.out ?_)
            | (refine wpList_store_row rfl 28 (.tmp 2) (.tmp 69) rfl w.heap.size _ rfl rfl _ _ RW.out UZ.out rfl OZ.out ?_))
          refine bodyPost_ret (v := .tuple #[.agg Z, .int .i64 5]) (adC.results_cell_tmp Try.results16 _ _ w.heap.size _ _ _ _ _ (by rfl) (setRow_heap _ _ _ _ _ _ RW.out) Try.underlying28 rfl UZ.out (by rfl)) rfl ?_
          rw [← EZ.out]
          exact ps_err E.out (by decide) (fun_setRow SBL.out)
        have q8 : ((i : Int) == 8) = false := beq_eq_false_iff_ne.2 (by omega)
        obtain ⟨k, hk⟩ : ∃ k, 8 - i = k + 1 := ⟨7 - i, by omega⟩
        have HK1 := Lib.hid (show 8 - (i + 1) = k by omega)
        rw [hk] at HH
        have iz : (i : Int) < 8 := by omega
        have LI := Lib.hid (show i + 1 ≤ 8 by omega)
        clear hk h8 hi8 hi
        by_cases h0 : y1 = 0 ∧ 0 < i
        · obtain ⟨rfl, hi0⟩ := h0
          have g0 : (0 : Int) < (i : Int) := by omega
          have E := Lib.hid (EFN.out 3 (by decide) (HH.out.symm.trans (show hdrs (k + 1) (decide (i = 0)) 0 X1 = badH 3 by rw [decide_eq_false (by omega)]; exact hdrs_form k X1)))
          go_wp2_with (first
            | (go_at_call 28; (refine KN.out.mono ?_); rintro e w' ⟨rfl, rfl⟩)
            | (refine adC.wpList_zero rfl 28 rfl Z BZ.out ?_)
            | (refine wpList_store_row rfl 28 (.tmp 2) (.tmp 77) rfl w.heap.size _ rfl rfl _ _ RW.out UZ.out rfl OZ.out ?_))
          refine bodyPost_ret (v := .tuple #[.agg Z, .int .i64 3]) (adC.results_cell_tmp Try.results16 _ _ w.heap.size _ _ _ _ _ (by rfl) (setRow_heap _ _ _ _ _ _ RW.out) Try.underlying28 rfl UZ.out (by rfl)) rfl ?_
          rw [← EZ.out]
          exact ps_err E.out (by decide) (fun_setRow SBL.out)
        have LX := Lib.hid HS.out.len
        obtain ⟨n, hn⟩ : ∃ n, n = X1.length := ⟨_, rfl⟩
        have EN2 := Lib.hid hn
        rw [← hn] at LX
        have NR := Lib.hid (show Nums .u8 w w.heap.size A1 X1.length X1 from HS.out.nums.keep fun a ha => (HS.out.bel.cell ha).symm)
        have CC := Lib.hid HS.out.cap
        have CM := Lib.hid HS.out.max
        rw [← hn] at NR CC
        rw [← hn]
        have ln : (n : Int) ≤ 9000 := by have := LX.out; omega
        clear hn
        by_cases h44 : y1 = 44
        · subst h44
          clear h0
          by_cases hn8 : n < 8
          · have E := Lib.hid (EFN.out 4 (by decide) (HH.out.symm.trans (hdrs_cut_stop k _ (by rw [← EN2.out]; exact hn8))))
            have qn8 : (n : Int) < 8 := by omega
            by_cases hn1 : 1 < n
            · have qn1 : (1 : Int) < (n : Int) := by omega
              go_wp2_with (first
                | (go_at_call 28; (refine KN.out.mono ?_); rintro e w' ⟨rfl, rfl⟩)
                | (refine adC.wpList_zero rfl 28 rfl Z BZ.out ?_)
                | (refine wpList_store_row rfl 28 (.tmp 2) (.tmp 96) rfl w.heap.size _ rfl rfl _ _ RW.out UZ.out rfl OZ.out ?_))
              refine bodyPost_ret (v := .tuple #[.agg Z, .int .i64 4]) (adC.results_cell_tmp Try.results16 _ _ w.heap.size _ _ _ _ _ (by rfl) (setRow_heap _ _ _ _ _ _ RW.out) Try.underlying28 rfl UZ.out (by rfl)) rfl ?_
              rw [← EZ.out]
              exact ps_err E.out (by decide) (fun_setRow SBL.out)
            · have dn1 : decide ((1 : Int) < (n : Int)) = false := decide_eq_false (by omega)
              go_wp2_with (first
                | (go_at_call 28; (refine KN.out.mono ?_); rintro e w' ⟨rfl, rfl⟩)
                | (refine adC.wpList_zero rfl 28 rfl Z BZ.out ?_)
                | (refine wpList_store_row rfl 28 (.tmp 2) (.tmp 96) rfl w.heap.size _ rfl rfl _ _ RW.out UZ.out rfl OZ.out ?_))
              refine bodyPost_ret (v := .tuple #[.agg Z, .int .i64 4]) (adC.results_cell_tmp Try.results16 _ _ w.heap.size _ _ _ _ _ (by rfl) (setRow_heap _ _ _ _ _ _ RW.out) Try.underlying28 rfl UZ.out (by rfl)) rfl ?_
              rw [← EZ.out]
              exact ps_err E.out (by decide) (fun_setRow SBL.out)
          have hn1 : 1 < n := by omega
          have qn1 : (1 : Int) < (n : Int) := by omega
          have dn8 : decide ((n : Int) < 8) = false := decide_eq_false (by omega)
          obtain ⟨br, q, rfl, hlr, hcr⟩ := NR.out.at_ (by omega)
          have CELL := Lib.hid (fun k (hk : k < n) w' (h : Below w.heap.size w w') => (show w'.cell? ⟨br, q + k, none⟩ = some (.int .u8 (X1.getD k 0)) from (h.cell (p := ⟨br, q + k, none⟩) hlr).trans (hcr k hk)))
          have NRW := Lib.hid (fun w' (h : Below w.heap.size w w') => (NR.out.below h).more h.size)
          clear hlr hcr
          have L8 := Lib.hid (show 8 ≤ n by omega)
          clear hn8
          obtain ⟨v0, v1⟩ := w2_bd HS.out.byt 2
          obtain ⟨i4, i5⟩ := w4_bd HS.out.byt 4
          obtain ⟨V, hV⟩ : ∃ V, V = sxC.w2 X1 2 := ⟨_, rfl⟩
          obtain ⟨t, ht⟩ : ∃ t, t = V / 8 := ⟨_, rfl⟩
          obtain ⟨f, hf⟩ : ∃ f, f = V / 8 * 8 := ⟨_, rfl⟩
          obtain ⟨x, hx⟩ : ∃ x, x = X1.getD 3 0 := ⟨_, rfl⟩
          obtain ⟨r, hr⟩ : ∃ r, r = x % 2 := ⟨_, rfl⟩
          obtain ⟨mo, hmo⟩ : ∃ mo : Bool, mo = (r == 1) := ⟨_, rfl⟩
          obtain ⟨I4, hI⟩ : ∃ I, I = w4 X1 4 := ⟨_, rfl⟩
          obtain ⟨z0, hz0⟩ : ∃ z, z = X1.getD 0 0 := ⟨_, rfl⟩
          have bx := getD_bytes HS.out.byt 3
          have bz := getD_bytes HS.out.byt 0
          rw [← hx] at bx
          rw [← hz0] at bz
          have BZ1 := Lib.hid bz
          unfold Byte at bx
          rw [← hV] at v0 v1
          have WV := Lib.hid (show IntKind.i64.wrap V = V from IntWalk.i64_in _ (by omega))
          have DT := Lib.hid (show V.tdiv 8 = t by rw [Int.tdiv_eq_ediv_of_nonneg v0, ht])
          have WT2 := Lib.hid (show IntKind.i64.wrap t = t from IntWalk.i64_in _ (by omega))
          have MF := Lib.hid (show t * 8 = f by rw [hf, ht])
          have WF := Lib.hid (show IntKind.i64.wrap f = f from IntWalk.i64_in _ (by omega))
          have DR := Lib.hid (show x.tmod 2 = r by rw [Int.tmod_eq_emod_of_nonneg (by omega), hr])
          have WR := Lib.hid (show IntKind.u8.wrap r = r from IntWalk.u8_in _ (by omega))
          have EM := Lib.hid hmo.symm
          have WI4 := Lib.hid (show IntKind.u32.wrap I4 = I4 from IntWalk.u32_in _ (by rw [hI]; omega))
          have SC2 := Lib.hid (cut_at br q n cr 2 4 2 (cr - 2) 2 4 rfl rfl (by decide) (by have := L8.out; have := CC.out; omega) (by have := L8.out; have := CC.out; omega) rfl rfl)
          have SC4 := Lib.hid (cut_at br q n cr 4 8 4 (cr - 4) 4 8 rfl rfl (by decide) (by have := L8.out; have := CC.out; omega) (by have := L8.out; have := CC.out; omega) rfl rfl)
          obtain ⟨A8, hA8⟩ : ∃ A8, A8 = (if cr = 8 then some (⟨br, q, none⟩ : Addr) else (some (⟨br, q, none⟩ : Addr)).map (·.add 8)) := ⟨_, rfl⟩
          have SC8 := Lib.hid (cut_tz (some ⟨br, q, none⟩) n cr 8 (n - 8) (cr - 8) 8 rfl (by have := L8.out; omega) CC.out rfl rfl A8 hA8)
          have EA8 := Lib.hid hA8
          have GV := Lib.hid (fun w' (h : Below w.heap.size w w') => (show Calls Try.prog 34 #[.slice (some ⟨br, q + 2, none⟩) 2 (cr - 2)] w' (fun e w'' => e = .returned (.int .u64 V) ∧ w' = w'') by
            rw [hV]
            exact get2_at br q n cr 2 X1 w' (NRW.out w' h) HS.out.byt (by have := L8.out; omega) (cr - 2) (by have := L8.out; have := CC.out; omega) (by have := CM.out; omega)))
          have GI := Lib.hid (fun w' (h : Below w.heap.size w w') => (show Calls Try.prog 34 #[.slice (some ⟨br, q + 4, none⟩) 4 (cr - 4)] w' (fun e w'' => e = .returned (.int .u64 I4) ∧ w' = w'') by
            rw [hI]
            exact get4_at br q n cr 4 X1 w' (NRW.out w' h) HS.out.byt (by have := L8.out; omega) (cr - 4) (by have := L8.out; have := CC.out; omega) (by have := CM.out; omega)))
          have C3 := Lib.hid (fun w' (h : Below w.heap.size w w') => CELL.out 3 (by have := L8.out; omega) w' h)
          rw [← hx] at C3
          have C0c := Lib.hid (fun w' (h : Below w.heap.size w w') => (show w'.cell? ⟨br, q, none⟩ = some (.int .u8 (X1.getD 0 0)) from CELL.out 0 (by have := L8.out; omega) w' h))
          rw [← hz0] at C0c
          have L4z := Lib.hid (show (3 : Int) < (n : Int) by have := L8.out; omega)
          have hP := HS.out.ok
          obtain ⟨P1, hP1⟩ : ∃ P : Pkt, P = { p with whole := false } := ⟨_, rfl⟩
          obtain ⟨P2, hP2⟩ : ∃ P : Pkt, P = { P1 with off := f } := ⟨_, rfl⟩
          obtain ⟨P3, hP3⟩ : ∃ P : Pkt, P = { P2 with more := mo } := ⟨_, rfl⟩
          obtain ⟨P4, hP4⟩ : ∃ P : Pkt, P = { P3 with id := I4 } := ⟨_, rfl⟩
          obtain ⟨P5, hP5⟩ : ∃ P : Pkt, P = { P4 with proto := z0 } := ⟨_, rfl⟩
          have EP5 := Lib.hid (show P5 = { finP p0 (cutH X1) with proto := (cutH X1).proto } by
            rw [hP5, hP4, hP3, hP2, hP1, EP.out, hz0, hI, hmo, hr, hx, hf, hV]; rfl)
          have OK1 := Lib.hid (show P1.Ok by rw [hP1]; exact ⟨hP.la, hP.lb, hP.ya, hP.yb, hP.proto, hP.hops, hP.id, hP.off⟩)
          have OK2 := Lib.hid (show P2.Ok by rw [hP2]; exact ⟨OK1.out.la, OK1.out.lb, OK1.out.ya, OK1.out.yb, OK1.out.proto, OK1.out.hops, OK1.out.id, by show -9223372036854775808 ≤ f ∧ f ≤ 9223372036854775807; omega⟩)
          have OK3 := Lib.hid (show P3.Ok by rw [hP3]; exact ⟨OK2.out.la, OK2.out.lb, OK2.out.ya, OK2.out.yb, OK2.out.proto, OK2.out.hops, OK2.out.id, OK2.out.off⟩)
          have OK4 := Lib.hid (show P4.Ok by rw [hP4]; exact ⟨OK3.out.la, OK3.out.lb, OK3.out.ya, OK3.out.yb, OK3.out.proto, OK3.out.hops, by show 0 ≤ I4 ∧ I4 ≤ 4294967295; rw [hI]; exact ⟨i4, i5⟩, OK3.out.off⟩)
          have OK5 := Lib.hid (show P5.Ok by rw [hP5]; exact ⟨OK4.out.la, OK4.out.lb, OK4.out.ya, OK4.out.yb, BZ1.out, OK4.out.hops, OK4.out.id, OK4.out.off⟩)
          have EP01 := Lib.hid (show P1.s = p.s ∧ P1.a = p.a ∧ P1.t = p.t ∧ P1.b = p.b ∧ (pktT p none 0 0).set 3 (.bool false) = pktT P1 none 0 0 by rw [hP1]; exact ⟨rfl, rfl, rfl, rfl, rfl⟩)
          have EP12 := Lib.hid (show P2.s = P1.s ∧ P2.a = P1.a ∧ P2.t = P1.t ∧ P2.b = P1.b ∧ (pktT P1 none 0 0).set 5 (.int .i64 f) = pktT P2 none 0 0 by rw [hP2]; exact ⟨rfl, rfl, rfl, rfl, rfl⟩)
          have EP23 := Lib.hid (show P3.s = P2.s ∧ P3.a = P2.a ∧ P3.t = P2.t ∧ P3.b = P2.b ∧ (pktT P2 none 0 0).set 4 (.bool mo) = pktT P3 none 0 0 by rw [hP3]; exact ⟨rfl, rfl, rfl, rfl, rfl⟩)
          have EP34 := Lib.hid (show P4.s = P3.s ∧ P4.a = P3.a ∧ P4.t = P3.t ∧ P4.b = P3.b ∧ (pktT P3 none 0 0).set 2 (.int .u32 I4) = pktT P4 none 0 0 by rw [hP4]; exact ⟨rfl, rfl, rfl, rfl, rfl⟩)
          have EP45 := Lib.hid (show P5.s = P4.s ∧ P5.a = P4.a ∧ P5.t = P4.t ∧ P5.b = P4.b ∧ (pktT P4 none 0 0).set 0 (.int .u8 z0) = pktT P5 none 0 0 by rw [hP5]; exact ⟨rfl, rfl, rfl, rfl, rfl⟩)
          have f37 := HS.out.frozen 37
          obtain ⟨d2, hd2⟩ : ∃ d, d = cr - 2 := ⟨_, rfl⟩
          rw [← hd2] at GV SC2
          obtain ⟨d4, hd4⟩ : ∃ d, d = cr - 4 := ⟨_, rfl⟩
          rw [← hd4] at GI SC4
          clear hP hP1 hP2 hP3 hP4 hP5 hV ht hf hx hr hmo hI hz0 bx bz v0 v1 i4 i5 hA8 hd2 hd4
          go_upto_region 26 with (first
            | (go_at_call 28; (refine KN.out.mono ?_); rintro e w' ⟨rfl, rfl⟩))
          have S1 := Lib.hid (HS.out.set 3 (.bool false) P1 OK1.out EP01.out.1 EP01.out.2.1 EP01.out.2.2.1 EP01.out.2.2.2.1 EP01.out.2.2.2.2)
          clear k34 k37 f37 RW SBL KN HS
          generalize wr.setCell ⟨g, 34 + 3, none⟩ (.bool false) = w5 at *
          refine with_act fun a0 ha0 => ?_
          have hl : cqT.length = a0.tmps.size := by rw [ha0]; rfl
          have k9 : a0.tmps[9]?.getD undef = .pointer (some ⟨g, 0, none⟩) := by rw [ha0]; rfl
          have k10 : a0.tmps[10]?.getD undef = .slice (some ⟨br, q, none⟩) n cr := by rw [ha0]; rfl
          refine wp_region_che (by kernel_rfl) cqT (by kernel_rfl) (by kernel_rfl) hl (fun i => if i = 13 then a0.tmps[113]?.getD undef else a0.tmps[i + 101]?.getD undef) (by rw [ha0]; rfl) (0) (Fr (· = g)) [12, 14] (by kernel_rfl) (by decide) (by decide) (fun w' => Below w.heap.size w w') (cqV br q n cr g d2 V t f x r mo) (cuR w g (some ⟨br, q, none⟩) cr X1 P1 P2 P3) (Nat.zero_le _) S1.out.bel.drew (S1.out.keep (Below.refl _ _).drew) (fun w1 w2 hb hd h => by rcases hd with hd | hd; exact h.trans (hd.mono h.size); exact ⟨hd.os.trans h.os, hd.tape.trans h.tape, hd.output.trans h.output, Nat.le_trans h.size hd.size, fun k hk => (hd.block k (Nat.lt_of_lt_of_le hk h.size) (by have := S1.out.lt; show ¬ k = g; omega)).trans (h.block k hk)⟩) (fun i v w w' _ hd h => cqV.keep _ _ _ _ _ _ _ _ _ _ _ _ i v w w' hd h) (fun k us us' w w' h _ hb hR => cuR.keep _ _ _ _ _ _ _ _ k us us' w w' hb hR) ⟨?_, ?_, ?_, ?_, ?_, ?_, ?_, ?_, ?_, ?_, ?_, ?_, ?_, ?_, ?_, trivial⟩ ?_
          · refine stepE_val [] (by kernel_rfl) (by decide) (by decide) rfl fun us w' hB hG hV => ?_
            have o10 := (frame_old2 (us := us) (a := a0) (show (cqT[10]?).join = none from rfl)).trans k10
            generalize frame cqT a0 us = fr at *
            exact val_C (v := .slice (some ⟨br, q, none⟩) n cr) (w' := w') (by go_simp) (Below.refl _ _) rfl
          · refine stepE_val [0] (by kernel_rfl) (by decide) (by decide) rfl fun us w' hB hG hV => ?_
            have e0 : us 0 = .slice (some ⟨br, q, none⟩) n cr := hV 0 (by simp)
            have v0 := (frame_at2 (us := us) hl (show (cqT[101]?).join = some 0 from rfl)).trans e0
            have hsc := SC2.out w'
            generalize frame cqT a0 us = fr at *
            exact val_C (v := .slice (some ⟨br, q + 2, none⟩) 2 d2) (w' := w') (by go_simp) (Below.refl _ _) rfl
          · refine stepE_val [1] (by kernel_rfl) (by decide) (by decide) rfl fun us w' hB hG hV => ?_
            have e1 : us 1 = .slice (some ⟨br, q + 2, none⟩) 2 d2 := hV 1 (by simp)
            have v1 := (frame_at2 (us := us) hl (show (cqT[102]?).join = some 1 from rfl)).trans e1
            generalize frame cqT a0 us = fr at *
            exact call_C (f := 34) (args := #[.slice (some ⟨br, q + 2, none⟩) 2 d2]) (by go_simp) ((GV.out w' hG).mono fun e w'' h => ⟨_, h.1, h.2 ▸ Below.refl _ _, rfl⟩)
          · refine stepE_val [2] (by kernel_rfl) (by decide) (by decide) rfl fun us w' hB hG hV => ?_
            have e2 : us 2 = .int .u64 V := hV 2 (by simp)
            have v2 := (frame_at2 (us := us) hl (show (cqT[103]?).join = some 2 from rfl)).trans e2
            have hw := WV.out
            generalize frame cqT a0 us = fr at *
            exact val_C (v := .int .i64 V) (w' := w') (by go_simp) (Below.refl _ _) rfl
          · refine stepE_val [3] (by kernel_rfl) (by decide) (by decide) rfl fun us w' hB hG hV => ?_
            have e3 : us 3 = .int .i64 V := hV 3 (by simp)
            have v3 := (frame_at2 (us := us) hl (show (cqT[104]?).join = some 3 from rfl)).trans e3
            have hw := DT.out
            have hw2 := WT2.out
            generalize frame cqT a0 us = fr at *
            exact val_C (v := .int .i64 t) (w' := w') (by go_simp) (Below.refl _ _) rfl
          · refine stepE_val [4] (by kernel_rfl) (by decide) (by decide) rfl fun us w' hB hG hV => ?_
            have e4 : us 4 = .int .i64 t := hV 4 (by simp)
            have v4 := (frame_at2 (us := us) hl (show (cqT[105]?).join = some 4 from rfl)).trans e4
            have hw := MF.out
            have hw2 := WF.out
            generalize frame cqT a0 us = fr at *
            exact val_C (v := .int .i64 f) (w' := w') (by go_simp) (Below.refl _ _) rfl
          · refine stepE_val [] (by kernel_rfl) (by decide) (by decide) rfl fun us w' hB hG hV => ?_
            have o10 := (frame_old2 (us := us) (a := a0) (show (cqT[10]?).join = none from rfl)).trans k10
            generalize frame cqT a0 us = fr at *
            exact val_C (v := .slice (some ⟨br, q, none⟩) n cr) (w' := w') (by go_simp) (Below.refl _ _) rfl
          · refine stepE_val [6] (by kernel_rfl) (by decide) (by decide) rfl fun us w' hB hG hV => ?_
            have e6 : us 6 = .slice (some ⟨br, q, none⟩) n cr := hV 6 (by simp)
            have v6 := (frame_at2 (us := us) hl (show (cqT[107]?).join = some 6 from rfl)).trans e6
            have lz : (3 : Int) < (n : Int) := L4z.out
            generalize frame cqT a0 us = fr at *
            exact val_C (v := .pointer (some ⟨br, q + 3, none⟩)) (w' := w') (by go_simp) (Below.refl _ _) rfl
          · refine stepE_val [7] (by kernel_rfl) (by decide) (by decide) rfl fun us w' hB hG hV => ?_
            have e7 : us 7 = .pointer (some ⟨br, q + 3, none⟩) := hV 7 (by simp)
            have v7 := (frame_at2 (us := us) hl (show (cqT[108]?).join = some 7 from rfl)).trans e7
            have hc := C3.out w' hG
            generalize frame cqT a0 us = fr at *
            exact val_C (v := .int .u8 x) (w' := w') (by go_simp) (Below.refl _ _) rfl
          · refine stepE_val [8] (by kernel_rfl) (by decide) (by decide) rfl fun us w' hB hG hV => ?_
            have e8 : us 8 = .int .u8 x := hV 8 (by simp)
            have v8 := (frame_at2 (us := us) hl (show (cqT[109]?).join = some 8 from rfl)).trans e8
            have hw := DR.out
            have hw2 := WR.out
            generalize frame cqT a0 us = fr at *
            exact val_C (v := .int .u8 r) (w' := w') (by go_simp) (Below.refl _ _) rfl
          · refine stepE_val [9] (by kernel_rfl) (by decide) (by decide) rfl fun us w' hB hG hV => ?_
            have e9 : us 9 = .int .u8 r := hV 9 (by simp)
            have v9 := (frame_at2 (us := us) hl (show (cqT[110]?).join = some 9 from rfl)).trans e9
            have hw := EM.out
            generalize frame cqT a0 us = fr at *
            exact val_C (v := .bool mo) (w' := w') (by go_simp) (Below.refl _ _) rfl
          · refine stepE_val [] (by kernel_rfl) (by decide) (by decide) rfl fun us w' hB hG hV => ?_
            have o9 := (frame_old2 (us := us) (a := a0) (show (cqT[9]?).join = none from rfl)).trans k9
            generalize frame cqT a0 us = fr at *
            exact val_C (v := .pointer (some ⟨g, 39, none⟩)) (w' := w') (by go_simp) (Below.refl _ _) rfl
          · refine stepE_chain 0 rfl (by decide) [5, 11] (by kernel_rfl) (by decide) rfl fun us w' hB hG hV hR => ?_
            have e5 : us 5 = .int .i64 f := hV 5 (by simp)
            have v5 := (frame_at2 (us := us) hl (show (cqT[106]?).join = some 5 from rfl)).trans e5
            have e11 : us 11 = .pointer (some ⟨g, 39, none⟩) := hV 11 (by simp)
            have v11 := (frame_at2 (us := us) hl (show (cqT[112]?).join = some 11 from rfl)).trans e11
            have H : LpS w g (some ⟨br, q, none⟩) cr X1 P1 w' := hR
            have hc := H.cell (pkC H.ok none 0 0).off
            have hf := H.frozen 39
            generalize frame cqT a0 us = fr at *
            refine free_skip (w' := w'.setCell ⟨g, 39, none⟩ (.int .i64 f)) (by go_simp) ⟨undef, rfl, fr_any (fr_set (S := fun k => k = g) (Fr.refl _) rfl _), ?_⟩
            exact H.set 5 (.int .i64 f) P2 OK2.out EP12.out.1 EP12.out.2.1 EP12.out.2.2.1 EP12.out.2.2.2.1 EP12.out.2.2.2.2
          · refine stepE_val [] (by kernel_rfl) (by decide) (by decide) rfl fun us w' hB hG hV => ?_
            have o9 := (frame_old2 (us := us) (a := a0) (show (cqT[9]?).join = none from rfl)).trans k9
            generalize frame cqT a0 us = fr at *
            exact val_C (v := .pointer (some ⟨g, 38, none⟩)) (w' := w') (by go_simp) (Below.refl _ _) rfl
          · refine stepE_chain 1 rfl (by decide) [10, 13] (by kernel_rfl) (by decide) rfl fun us w' hB hG hV hR => ?_
            have e10 : us 10 = .bool mo := hV 10 (by simp)
            have v10 := (frame_at2 (us := us) hl (show (cqT[111]?).join = some 10 from rfl)).trans e10
            have e13 : us 13 = .pointer (some ⟨g, 38, none⟩) := hV 13 (by simp)
            have v13 := (frame_at2 (us := us) hl (show (cqT[113]?).join = some 13 from rfl)).trans e13
            have H : LpS w g (some ⟨br, q, none⟩) cr X1 P2 w' := hR
            have hc := H.cell (pkC H.ok none 0 0).more
            have hf := H.frozen 38
            generalize frame cqT a0 us = fr at *
            refine free_skip (w' := w'.setCell ⟨g, 38, none⟩ (.bool mo)) (by go_simp) ⟨undef, rfl, fr_any (fr_set (S := fun k => k = g) (Fr.refl _) rfl _), ?_⟩
            exact H.set 4 (.bool mo) P3 OK3.out EP23.out.1 EP23.out.2.1 EP23.out.2.2.1 EP23.out.2.2.2.1 EP23.out.2.2.2.2
          · intro us w6 hB2 hG hV hR
            have S4 := Lib.hid (show LpS w g (some ⟨br, q, none⟩) cr X1 P3 w6 from hR)
            subst ha0
            simp only [frame, cqT, fill]
            clear hV hG hl k9 k10 hR
            generalize us 0 = y0' at *
            generalize us 1 = y1' at *
            generalize us 2 = y2' at *
            generalize us 3 = y3' at *
            generalize us 4 = y4' at *
            generalize us 5 = y5' at *
            generalize us 6 = y6' at *
            generalize us 7 = y7' at *
            generalize us 8 = y8' at *
            generalize us 9 = y9' at *
            generalize us 10 = y10' at *
            generalize us 11 = y11' at *
            generalize us 13 = y13' at *
            clear us
            clear S1 GV SC2 WV DT WT2 MF WF DR WR EM C3 L4z
            have sc4 := SC4.out
            have wi := WI4.out
            have c36 := S4.out.cell (pkC S4.out.ok none 0 0).id
            have f36 := S4.out.frozen 36
            go_upto_region 28 with (first
              | (go_at_call 34; (refine (GI.out _ S4.out.bel).mono ?_); rintro e w' ⟨rfl, rfl⟩))
            have S5 := Lib.hid (S4.out.set 2 (.int .u32 I4) P4 OK4.out EP34.out.1 EP34.out.2.1 EP34.out.2.2.1 EP34.out.2.2.2.1 EP34.out.2.2.2.2)
            clear c36 f36 sc4 wi S4 GI SC4
            generalize w6.setCell ⟨g, 34 + 2, none⟩ (.int .u32 I4) = w7 at *
            have c00 := C0c.out w7 S5.out.bel
            have c34 := S5.out.cell (pkC S5.out.ok none 0 0).proto
            have f34 := S5.out.frozen 34
            have z1n : (0 : Int) < (n : Int) := by have := L8.out; omega
            go_upto_region 29 with fail
            have S6 := Lib.hid (S5.out.set 0 (.int .u8 z0) P5 OK5.out EP45.out.1 EP45.out.2.1 EP45.out.2.2.1 EP45.out.2.2.2.1 EP45.out.2.2.2.2)
            rw [show (34 + 0 : Nat) = 34 from rfl] at S6
            clear c00 c34 f34 S5
            generalize w7.setCell ⟨g, 34, none⟩ (.int .u8 z0) = w8 at *
            have sc8 := SC8.out
            go_wp2_with fail
            go_roundw
            case rel =>
              have e1 := HH.out.symm.trans (hdrs_cut k _ (by rw [← EN2.out]; exact L8.out))
              refine ⟨i + 1, A8, cr - 8, X1.drop 8, by have := LI.out; omega, by go_num, by rw [List.length_drop, ← EN2.out], .inr ?_⟩
              rw [e1]
              refine ⟨rfl, rfl, rfl, ?_⟩
              rw [← EP5.out, EA8.out]
              exact S6.out.cut 8 (by rw [← EN2.out]; exact L8.out)
            case measure => simp [intOf]; omega
        · have q44 : (y1 == 44) = false := beq_eq_false_iff_ne.2 h44
          have HT := Lib.hid (show tellB y1 = true by have := knownB_iff.1 EK.out; rw [tellB_iff]; omega)
          have HF0 := Lib.hid (show y1 = 0 → decide (i = 0) = true from fun e => decide_eq_true (by omega))
          by_cases hn1 : 1 < n
          rotate_left
          · have dn1 : decide ((1 : Int) < (n : Int)) = false := decide_eq_false (by omega)
            have hn8 : (n : Int) < 8 := by omega
            have hz8 : 8 ≤ szN X1 := by have b1 := getD_bytes HS.out.byt 1; unfold Byte at b1; unfold szN; omega
            have E := Lib.hid (EFN.out 4 (by decide) (HH.out.symm.trans (hdrs_skip_stop k HT.out HF0.out (by rw [← EN2.out]; omega))))
            clear hz8
            by_cases hy0 : y1 = 0
            · subst hy0
              obtain rfl : i = 0 := by omega
              clear h0
              go_wp2_with (first
                | (go_at_call 28; (refine KN.out.mono ?_); rintro e w' ⟨rfl, rfl⟩)
                | (refine adC.wpList_zero rfl 28 rfl Z BZ.out ?_)
                | (refine wpList_store_row rfl 28 (.tmp 2) (.tmp 96) rfl w.heap.size _ rfl rfl _ _ RW.out UZ.out rfl OZ.out ?_))
              refine bodyPost_ret (v := .tuple #[.agg Z, .int .i64 4]) (adC.results_cell_tmp Try.results16 _ _ w.heap.size _ _ _ _ _ (by rfl) (setRow_heap _ _ _ _ _ _ RW.out) Try.underlying28 rfl UZ.out (by rfl)) rfl ?_
              rw [← EZ.out]
              exact ps_err E.out (by decide) (fun_setRow SBL.out)
            · have q0 : (y1 == 0) = false := beq_eq_false_iff_ne.2 hy0
              clear h0
              go_wp2_with (first
                | (go_at_call 28; (refine KN.out.mono ?_); rintro e w' ⟨rfl, rfl⟩)
                | (refine adC.wpList_zero rfl 28 rfl Z BZ.out ?_)
                | (refine wpList_store_row rfl 28 (.tmp 2) (.tmp 96) rfl w.heap.size _ rfl rfl _ _ RW.out UZ.out rfl OZ.out ?_))
              refine bodyPost_ret (v := .tuple #[.agg Z, .int .i64 4]) (adC.results_cell_tmp Try.results16 _ _ w.heap.size _ _ _ _ _ (by rfl) (setRow_heap _ _ _ _ _ _ RW.out) Try.underlying28 rfl UZ.out (by rfl)) rfl ?_
              rw [← EZ.out]
              exact ps_err E.out (by decide) (fun_setRow SBL.out)
          obtain ⟨br, q, rfl, hlr, hcr⟩ := NR.out.at_ (by omega)
          have CELL := Lib.hid (fun k (hk : k < n) w' (h : Below w.heap.size w w') => (show w'.cell? ⟨br, q + k, none⟩ = some (.int .u8 (X1.getD k 0)) from (h.cell (p := ⟨br, q + k, none⟩) hlr).trans (hcr k hk)))
          clear hlr hcr
          have bx := getD_bytes HS.out.byt 1
          have bz := getD_bytes HS.out.byt 0
          obtain ⟨x1, hx1⟩ : ∃ x, x = X1.getD 1 0 := ⟨_, rfl⟩
          obtain ⟨z0, hz0⟩ : ∃ z, z = X1.getD 0 0 := ⟨_, rfl⟩
          rw [← hx1] at bx
          rw [← hz0] at bz
          have BZ1 := Lib.hid bz
          have EZ0 := Lib.hid hz0
          unfold Byte at bx
          have c1 : wr.cell? ⟨br, q + 1, none⟩ = some (.int .u8 x1) := by rw [hx1]; exact CELL.out 1 hn1 wr SBL.out
          have C0c := Lib.hid (fun w' (h : Below w.heap.size w w') => (show w'.cell? ⟨br, q, none⟩ = some (.int .u8 (X1.getD 0 0)) from CELL.out 0 (by omega) w' h))
          rw [← hz0] at C0c
          obtain ⟨a1, ha1⟩ : ∃ a, a = x1 + 1 := ⟨_, rfl⟩
          obtain ⟨s, hs⟩ : ∃ s, s = szN X1 := ⟨_, rfl⟩
          have es : 8 * a1 = (s : Int) := by rw [hs, ha1]; unfold szN; rw [← hx1]; omega
          have ES := Lib.hid hs
          have wx := IntWalk.i64_in x1 (by omega)
          have ea := ha1.symm
          have wa := IntWalk.i64_in a1 (by omega)
          have ws := IntWalk.i64_in (s : Int) (by omega)
          have hz1 : (1 : Int) < (n : Int) := by omega
          have S8 := Lib.hid (show 8 ≤ s by omega)
          have PZ := Lib.hid (show ({ p0 with proto := z0 } : Pkt).Ok from ⟨HS.out.ok.la |> fun h => by rw [EP.out] at h; exact h, HS.out.ok.lb |> fun h => by rw [EP.out] at h; exact h, HS.out.ok.ya |> fun h => by rw [EP.out] at h; exact h, HS.out.ok.yb |> fun h => by rw [EP.out] at h; exact h, BZ1.out, HS.out.ok.hops |> fun h => by rw [EP.out] at h; exact h, HS.out.ok.id |> fun h => by rw [EP.out] at h; exact h, HS.out.ok.off |> fun h => by rw [EP.out] at h; exact h⟩)
          clear hx1 hz0 bx bz ha1 hs
          by_cases hns : n < s
          · have E := Lib.hid (EFN.out 4 (by decide) (HH.out.symm.trans (hdrs_skip_stop k HT.out HF0.out (by rw [← EN2.out, ← ES.out]; exact hns))))
            by_cases hy0 : y1 = 0
            · subst hy0
              obtain rfl : i = 0 := by omega
              clear h0
              go_wp2_with (first
                | (go_at_call 28; (refine KN.out.mono ?_); rintro e w' ⟨rfl, rfl⟩)
                | (refine adC.wpList_zero rfl 28 rfl Z BZ.out ?_)
                | (refine wpList_store_row rfl 28 (.tmp 2) (.tmp 96) rfl w.heap.size _ rfl rfl _ _ RW.out UZ.out rfl OZ.out ?_))
              refine bodyPost_ret (v := .tuple #[.agg Z, .int .i64 4]) (adC.results_cell_tmp Try.results16 _ _ w.heap.size _ _ _ _ _ (by rfl) (setRow_heap _ _ _ _ _ _ RW.out) Try.underlying28 rfl UZ.out (by rfl)) rfl ?_
              rw [← EZ.out]
              exact ps_err E.out (by decide) (fun_setRow SBL.out)
            · have q0 : (y1 == 0) = false := beq_eq_false_iff_ne.2 hy0
              clear h0
              go_wp2_with (first
                | (go_at_call 28; (refine KN.out.mono ?_); rintro e w' ⟨rfl, rfl⟩)
                | (refine adC.wpList_zero rfl 28 rfl Z BZ.out ?_)
                | (refine wpList_store_row rfl 28 (.tmp 2) (.tmp 96) rfl w.heap.size _ rfl rfl _ _ RW.out UZ.out rfl OZ.out ?_))
              refine bodyPost_ret (v := .tuple #[.agg Z, .int .i64 4]) (adC.results_cell_tmp Try.results16 _ _ w.heap.size _ _ _ _ _ (by rfl) (setRow_heap _ _ _ _ _ _ RW.out) Try.underlying28 rfl UZ.out (by rfl)) rfl ?_
              rw [← EZ.out]
              exact ps_err E.out (by decide) (fun_setRow SBL.out)
          have dns : decide (n < s) = false := decide_eq_false hns
          obtain ⟨A8, hA8⟩ : ∃ A8, A8 = (if cr = s then some (⟨br, q, none⟩ : Addr) else (some (⟨br, q, none⟩ : Addr)).map (·.add s)) := ⟨_, rfl⟩
          have SC8 := Lib.hid (cut_tz (some ⟨br, q, none⟩) n cr s (n - s) (cr - s) s rfl (by omega) CC.out rfl rfl A8 hA8)
          have EA8 := Lib.hid hA8
          have LNS := Lib.hid (show s ≤ n by omega)
          have e1 := HH.out.symm.trans (hdrs_skip k HT.out HF0.out (by rw [← EN2.out, ← ES.out]; omega))
          rw [← EZ0.out, ← ES.out] at e1
          have E1 := Lib.hid e1
          have c0 := C0c.out wr SBL.out
          have f34 := HS.out.frozen 34
          have sc8 := SC8.out
          have z1n : (0 : Int) < (n : Int) := by omega
          clear hns hA8 e1 SC8
          by_cases hy0 : y1 = 0
          · subst hy0
            obtain rfl : i = 0 := by omega
            clear h0
            go_wp2_with (first
              | (go_at_call 28; (refine KN.out.mono ?_); rintro e w' ⟨rfl, rfl⟩))
            go_roundw
            case rel =>
              refine ⟨0 + 1, A8, cr - s, X1.drop s, by omega, rfl, by rw [List.length_drop, ← EN2.out], .inl ⟨z0, LI.out, ?_, by rw [HK1.out]; exact E1.out.symm⟩⟩
              rw [EA8.out]
              exact (HS.out.set 0 (.int .u8 z0) { p0 with proto := z0 } PZ.out (by rw [EP.out]) (by rw [EP.out]) (by rw [EP.out]) (by rw [EP.out]) (by rw [EP.out]; rfl)).cut s (by rw [← EN2.out]; exact LNS.out)
            case measure => simp [intOf]
          · have q0 : (y1 == 0) = false := beq_eq_false_iff_ne.2 hy0
            clear h0
            go_wp2_with (first
              | (go_at_call 28; (refine KN.out.mono ?_); rintro e w' ⟨rfl, rfl⟩))
            go_roundw
            case rel =>
              refine ⟨i + 1, A8, cr - s, X1.drop s, by have := LI.out; omega, by go_num, by rw [List.length_drop, ← EN2.out], .inl ⟨z0, LI.out, ?_, by rw [HK1.out, decide_eq_false (by omega)]; exact E1.out.symm⟩⟩
              rw [EA8.out]
              exact (HS.out.set 0 (.int .u8 z0) { p0 with proto := z0 } PZ.out (by rw [EP.out]) (by rw [EP.out]) (by rw [EP.out]) (by rw [EP.out]) (by rw [EP.out]; rfl)).cut s (by rw [← EN2.out]; exact LNS.out)
            case measure => simp [intOf]; omega
      · have epk : pkOf bs = { finP p0 H with proto := H.proto } := EPKH.out
        have exx : X1 = (hdOf bs).rest := by rw [← EH.out]; exact hX
        have ehe : (hdOf bs).e = 0 := by rw [← EH.out]; exact h1
        obtain ⟨p, hp⟩ : ∃ p : Pkt, p = { finP p0 H with proto := H.proto } := ⟨_, rfl⟩
        rw [← hp] at S epk
        have HS := Lib.hid S
        have k34 := S.cell (pkC S.ok none 0 0).proto
        have k37 := S.cell (pkC S.ok none 0 0).whole
        have ew : p.whole = false := by rw [hp]; exact h2
        rw [ew] at k37
        obtain ⟨z1, hz1⟩ : ∃ z, z = p.proto := ⟨_, rfl⟩
        rw [← hz1] at k34
        have KN := Lib.hid (known_any z1 wr)
        obtain ⟨kb, hkb⟩ : ∃ kb, kb = knownB z1 := ⟨_, rfl⟩
        rw [← hkb] at KN
        clear S h1 h2 hX hkb hz1 ew hp hi
        cases kb
        · have EPK := Lib.hid epk
          have EXX := Lib.hid exx
          have EHE := Lib.hid ehe
          clear epk exx ehe
          have c40 := HS.out.cell (pkC HS.out.ok none 0 0).load
          have f40 := HS.out.frozen 40
          have NR := Lib.hid HS.out.nums
          have LX := Lib.hid (show X1.length ≤ 9000 from HS.out.len)
          obtain ⟨n, hn⟩ : ∃ n, n = X1.length := ⟨_, rfl⟩
          have EN2 := Lib.hid hn
          rw [← hn] at NR LX
          have SB := Lib.hid HS.out.bel
          have LW := Lib.hid (lt_of_row HS.out.pk)
          have RP := Lib.hid HS.out.pk
          have RZ := Lib.hid HS.out.res
          rw [EZ.out] at RZ
          have POK := Lib.hid HS.out.ok
          have LG := Lib.hid HS.out.lt
          have ln : (n : Int) ≤ 9000 := by have := LX.out; omega
          have UPP := Lib.hid (fun A c => (pkC POK.out A n c).info)
          have SPP := Lib.hid (fun A c => (show Z.size = (pktV p A n c).size by rw [← EZ.out]; exact (pkC zPkt_ok none 0 0).size.trans (pkC POK.out A n c).size.symm))
          have OPP := Lib.hid (fun A c => pkt_one p A n c)
          have MM := Lib.hid (fun A c w' => rmay_any p A n c w' POK.out (by have := LX.out; omega))
          obtain ⟨my, hmy⟩ : ∃ my, my = mayS p n := ⟨_, rfl⟩
          rw [← hmy] at MM
          have EMY := Lib.hid hmy
          rw [← hn]
          clear hmy hn HS
          go_upto_region 31 with (first
            | (go_at_call 28; (refine KN.out.mono ?_); rintro e w' ⟨rfl, rfl⟩)
            | (at_builtin; (refine wpList_app _ rfl (.const (.slice none 0 0)) (.tmp 126) _ rfl 5 i0 _ 1 Try.underlying26 T1.out T2.out T3.out T4.out rfl wr.heap.size _ [] rfl (Own.nil _ wr.heap.size) _ _ n cr X1 rfl NR.out (by have := LX.out; simp only [maxLen, List.length_nil]; omega) (by have := LX.out; simp only [List.length_nil]; omega) (Nat.le_refl _) ?_)
               intro v' wv O' hg'
               have BG : Below wr.heap.size wr wv := Below.grown (Below.refl _ _) hg' (Nat.le_refl _) fun g hg => by cases hg
               obtain ⟨A', c', ev, _, _, _⟩ := O'.form
               simp only [List.nil_append] at ev O'
               rw [← EN2.out] at ev
               subst ev
               have OV := Lib.hid O'
               have BV := Lib.hid BG
               have c41 := (BG.cell (p := ⟨g, 40, none⟩) LW.out).trans c40
               have f41 := (BG.frozen (p := ⟨g, 40, none⟩) LW.out).trans f40
               have RPV := Lib.hid (show wv.heap[g]? = some (.cells (pktV p none 0 0) 28 (0, 0)) by rw [BG.block _ LW.out]; exact RP.out)
               clear O' hg' BG))
          have RP5 := Lib.hid (show (wv.setCell ⟨g, 40, none⟩ (.slice A' n c')).heap[g]? = some (.cells (pktV p A' n c') 28 (0, 0)) by
            have e := heap_setCell_same wv g 40 _ _ (.slice A' n c') RPV.out
            rw [e, pkt_set POK.out none 0 0 6 (.slice A' n c') p rfl rfl rfl rfl A' n c' rfl])
          have OV5 := Lib.hid (show Own .u8 5 (wv.setCell ⟨g, 40, none⟩ (.slice A' n c')) wr.heap.size (.slice A' n c') X1 from OV.out.keep fun k h1 h2 => Below.heap_setCell _ _ _ _ (show k ≠ g by have := LW.out; omega))
          have SB5 := Lib.hid (show Below w.heap.size w (wv.setCell ⟨g, 40, none⟩ (.slice A' n c')) from (SB.out.trans (BV.out.mono SB.out.size)).trans ((Below.refl _ _).setCell (p := ⟨g, 40, none⟩) (by have := LG.out; show w.heap.size ≤ g; omega) _))
          have RZ5 := Lib.hid (show (wv.setCell ⟨g, 40, none⟩ (.slice A' n c')).heap[w.heap.size]? = some (.cells Z 28 (0, 0)) from (Below.heap_setCell _ _ _ _ (show w.heap.size ≠ g by have := LG.out; omega)).trans (by rw [BV.out.block _ (lt_of_row RZ.out)]; exact RZ.out))
          clear RPV OV BV RP RZ SB c40 f40 c41 f41 NR
          generalize wv.setCell ⟨g, 40, none⟩ (.slice A' n c') = w5 at *
          have UP := Lib.hid (UPP.out A' c')
          have SP := Lib.hid (SPP.out A' c')
          have OP := Lib.hid (OPP.out A' c')
          have M5 := Lib.hid (MM.out A' c')
          obtain ⟨PK, hPK⟩ : ∃ PK, PK = pktV p A' n c' := ⟨_, rfl⟩
          rw [← hPK] at UP SP OP M5 RP5
          have EPV := Lib.hid hPK
          clear hPK UPP SPP OPP MM
          have ERL := Lib.hid (show (hdOf bs).rest.length = n by rw [← EXX.out, EN2.out])
          cases my
          · have E := Lib.hid (psE_4 L40.out E6.out L3.out EHE.out (by rw [EPK.out, ERL.out]; exact EMY.out.symm))
            go_wp2_with (first
              | (refine wpList_load_row rfl 28 (.tmp 9) rfl g rfl _ _ _ _ RP5.out Try.underlying28 rfl UP.out ?_)
              | (go_at_call 14; (refine (M5.out _).mono ?_); rintro e v7 ⟨rfl, BB⟩
                 have RZ6 := Lib.hid (show v7.heap[w.heap.size]? = some (.cells Z 28 (0, 0)) by rw [BB.block _ (lt_of_row RZ5.out)]; exact RZ5.out)
                 have SB6 := Lib.hid (SB5.out.trans (BB.mono SB5.out.size))
                 clear BB)
              | (refine adC.wpList_zero rfl 28 rfl Z BZ.out ?_)
              | (refine wpList_store_row rfl 28 (.tmp 2) (.tmp 132) rfl w.heap.size _ rfl rfl _ _ RZ6.out UZ.out rfl OZ.out ?_))
            refine bodyPost_ret (v := .tuple #[.agg Z, .int .i64 3]) (adC.results_cell_tmp Try.results16 _ _ w.heap.size _ _ _ _ _ (by rfl) (setRow_heap _ _ _ _ _ _ RZ6.out) Try.underlying28 rfl UZ.out (by rfl)) rfl ?_
            rw [← EZ.out]
            exact ps_err E.out (by decide) (fun_setRow SB6.out)
          · have E := Lib.hid (psE_mk L40.out E6.out L3.out EHE.out (by rw [EPK.out, ERL.out]; exact EMY.out.symm))
            go_wp2_with (first
              | (refine wpList_load_row rfl 28 (.tmp 9) rfl g rfl _ _ _ _ (by first | exact RP5.out | exact RP6.out) Try.underlying28 rfl UP.out ?_)
              | (go_at_call 14; (refine (M5.out _).mono ?_); rintro e v7 ⟨rfl, BB⟩
                 have RZ6 := Lib.hid (show v7.heap[w.heap.size]? = some (.cells Z 28 (0, 0)) by rw [BB.block _ (lt_of_row RZ5.out)]; exact RZ5.out)
                 have RP6 := Lib.hid (show v7.heap[g]? = some (.cells PK 28 (0, 0)) by rw [BB.block _ (lt_of_row RP5.out)]; exact RP5.out)
                 have OV6 := Lib.hid (OV5.out.below BB)
                 have SB6 := Lib.hid (SB5.out.trans (BB.mono SB5.out.size))
                 clear BB)
              | (refine wpList_store_row rfl 28 (.tmp 2) (.tmp 133) rfl w.heap.size _ rfl rfl _ _ RZ6.out UP.out SP.out OP.out ?_))
            refine bodyPost_ret (v := .tuple #[.agg PK, .int .i64 0]) (adC.results_cell_tmp Try.results16 _ _ w.heap.size _ _ _ _ _ (by rfl) (setRow_heap _ _ _ _ _ _ RZ6.out) Try.underlying28 rfl UP.out (by rfl)) rfl ?_
            have e1 : psP bs = p := by unfold psP; rw [if_pos E.out]; exact EPK.out
            have e2 : psX bs = X1 := by unfold psX; rw [if_pos E.out]; exact EXX.out.symm
            refine ⟨A', n, c', by rw [e1, E.out, EPV.out], ?_, fun_setRow SB6.out⟩
            rw [e2]
            have OO : Own .u8 5 (v7.setRow w.heap.size PK) wr.heap.size (.slice A' n c') X1 := OV6.out.keep fun k h1 h2 => setRow_other _ _ _ _ (show k ≠ w.heap.size by have := LW.out; have := LG.out; omega)
            exact OO.nums
        · have EPK := Lib.hid epk
          have EXX := Lib.hid exx
          have EHE := Lib.hid ehe
          clear epk exx ehe
          have c40 := HS.out.cell (pkC HS.out.ok none 0 0).load
          have f40 := HS.out.frozen 40
          have NR := Lib.hid HS.out.nums
          have LX := Lib.hid (show X1.length ≤ 9000 from HS.out.len)
          obtain ⟨n, hn⟩ : ∃ n, n = X1.length := ⟨_, rfl⟩
          have EN2 := Lib.hid hn
          rw [← hn] at NR LX
          have SB := Lib.hid HS.out.bel
          have LW := Lib.hid (lt_of_row HS.out.pk)
          have RP := Lib.hid HS.out.pk
          have RZ := Lib.hid HS.out.res
          rw [EZ.out] at RZ
          have POK := Lib.hid HS.out.ok
          have LG := Lib.hid HS.out.lt
          have ln : (n : Int) ≤ 9000 := by have := LX.out; omega
          have UPP := Lib.hid (fun A c => (pkC POK.out A n c).info)
          have SPP := Lib.hid (fun A c => (show Z.size = (pktV p A n c).size by rw [← EZ.out]; exact (pkC zPkt_ok none 0 0).size.trans (pkC POK.out A n c).size.symm))
          have OPP := Lib.hid (fun A c => pkt_one p A n c)
          have MM := Lib.hid (fun A c w' => rmay_any p A n c w' POK.out (by have := LX.out; omega))
          obtain ⟨my, hmy⟩ : ∃ my, my = mayS p n := ⟨_, rfl⟩
          rw [← hmy] at MM
          have EMY := Lib.hid hmy
          rw [← hn]
          clear hmy hn HS
          go_upto_region 31 with (first
            | (go_at_call 28; (refine KN.out.mono ?_); rintro e w' ⟨rfl, rfl⟩)
            | (at_builtin; (refine wpList_app _ rfl (.const (.slice none 0 0)) (.tmp 126) _ rfl 5 i0 _ 1 Try.underlying26 T1.out T2.out T3.out T4.out rfl wr.heap.size _ [] rfl (Own.nil _ wr.heap.size) _ _ n cr X1 rfl NR.out (by have := LX.out; simp only [maxLen, List.length_nil]; omega) (by have := LX.out; simp only [List.length_nil]; omega) (Nat.le_refl _) ?_)
               intro v' wv O' hg'
               have BG : Below wr.heap.size wr wv := Below.grown (Below.refl _ _) hg' (Nat.le_refl _) fun g hg => by cases hg
               obtain ⟨A', c', ev, _, _, _⟩ := O'.form
               simp only [List.nil_append] at ev O'
               rw [← EN2.out] at ev
               subst ev
               have OV := Lib.hid O'
               have BV := Lib.hid BG
               have c41 := (BG.cell (p := ⟨g, 40, none⟩) LW.out).trans c40
               have f41 := (BG.frozen (p := ⟨g, 40, none⟩) LW.out).trans f40
               have RPV := Lib.hid (show wv.heap[g]? = some (.cells (pktV p none 0 0) 28 (0, 0)) by rw [BG.block _ LW.out]; exact RP.out)
               clear O' hg' BG))
          have RP5 := Lib.hid (show (wv.setCell ⟨g, 40, none⟩ (.slice A' n c')).heap[g]? = some (.cells (pktV p A' n c') 28 (0, 0)) by
            have e := heap_setCell_same wv g 40 _ _ (.slice A' n c') RPV.out
            rw [e, pkt_set POK.out none 0 0 6 (.slice A' n c') p rfl rfl rfl rfl A' n c' rfl])
          have OV5 := Lib.hid (show Own .u8 5 (wv.setCell ⟨g, 40, none⟩ (.slice A' n c')) wr.heap.size (.slice A' n c') X1 from OV.out.keep fun k h1 h2 => Below.heap_setCell _ _ _ _ (show k ≠ g by have := LW.out; omega))
          have SB5 := Lib.hid (show Below w.heap.size w (wv.setCell ⟨g, 40, none⟩ (.slice A' n c')) from (SB.out.trans (BV.out.mono SB.out.size)).trans ((Below.refl _ _).setCell (p := ⟨g, 40, none⟩) (by have := LG.out; show w.heap.size ≤ g; omega) _))
          have RZ5 := Lib.hid (show (wv.setCell ⟨g, 40, none⟩ (.slice A' n c')).heap[w.heap.size]? = some (.cells Z 28 (0, 0)) from (Below.heap_setCell _ _ _ _ (show w.heap.size ≠ g by have := LG.out; omega)).trans (by rw [BV.out.block _ (lt_of_row RZ.out)]; exact RZ.out))
          clear RPV OV BV RP RZ SB c40 f40 c41 f41 NR
          generalize wv.setCell ⟨g, 40, none⟩ (.slice A' n c') = w5 at *
          have UP := Lib.hid (UPP.out A' c')
          have SP := Lib.hid (SPP.out A' c')
          have OP := Lib.hid (OPP.out A' c')
          have M5 := Lib.hid (MM.out A' c')
          obtain ⟨PK, hPK⟩ : ∃ PK, PK = pktV p A' n c' := ⟨_, rfl⟩
          rw [← hPK] at UP SP OP M5 RP5
          have EPV := Lib.hid hPK
          clear hPK UPP SPP OPP MM
          have ERL := Lib.hid (show (hdOf bs).rest.length = n by rw [← EXX.out, EN2.out])
          cases my
          · have E := Lib.hid (psE_4 L40.out E6.out L3.out EHE.out (by rw [EPK.out, ERL.out]; exact EMY.out.symm))
            go_wp2_with (first
              | (refine wpList_load_row rfl 28 (.tmp 9) rfl g rfl _ _ _ _ RP5.out Try.underlying28 rfl UP.out ?_)
              | (go_at_call 14; (refine (M5.out _).mono ?_); rintro e v7 ⟨rfl, BB⟩
                 have RZ6 := Lib.hid (show v7.heap[w.heap.size]? = some (.cells Z 28 (0, 0)) by rw [BB.block _ (lt_of_row RZ5.out)]; exact RZ5.out)
                 have SB6 := Lib.hid (SB5.out.trans (BB.mono SB5.out.size))
                 clear BB)
              | (refine adC.wpList_zero rfl 28 rfl Z BZ.out ?_)
              | (refine wpList_store_row rfl 28 (.tmp 2) (.tmp 132) rfl w.heap.size _ rfl rfl _ _ RZ6.out UZ.out rfl OZ.out ?_))
            refine bodyPost_ret (v := .tuple #[.agg Z, .int .i64 3]) (adC.results_cell_tmp Try.results16 _ _ w.heap.size _ _ _ _ _ (by rfl) (setRow_heap _ _ _ _ _ _ RZ6.out) Try.underlying28 rfl UZ.out (by rfl)) rfl ?_
            rw [← EZ.out]
            exact ps_err E.out (by decide) (fun_setRow SB6.out)
          · have E := Lib.hid (psE_mk L40.out E6.out L3.out EHE.out (by rw [EPK.out, ERL.out]; exact EMY.out.symm))
            go_wp2_with (first
              | (refine wpList_load_row rfl 28 (.tmp 9) rfl g rfl _ _ _ _ (by first | exact RP5.out | exact RP6.out) Try.underlying28 rfl UP.out ?_)
              | (go_at_call 14; (refine (M5.out _).mono ?_); rintro e v7 ⟨rfl, BB⟩
                 have RZ6 := Lib.hid (show v7.heap[w.heap.size]? = some (.cells Z 28 (0, 0)) by rw [BB.block _ (lt_of_row RZ5.out)]; exact RZ5.out)
                 have RP6 := Lib.hid (show v7.heap[g]? = some (.cells PK 28 (0, 0)) by rw [BB.block _ (lt_of_row RP5.out)]; exact RP5.out)
                 have OV6 := Lib.hid (OV5.out.below BB)
                 have SB6 := Lib.hid (SB5.out.trans (BB.mono SB5.out.size))
                 clear BB)
              | (refine wpList_store_row rfl 28 (.tmp 2) (.tmp 133) rfl w.heap.size _ rfl rfl _ _ RZ6.out UP.out SP.out OP.out ?_))
            refine bodyPost_ret (v := .tuple #[.agg PK, .int .i64 0]) (adC.results_cell_tmp Try.results16 _ _ w.heap.size _ _ _ _ _ (by rfl) (setRow_heap _ _ _ _ _ _ RZ6.out) Try.underlying28 rfl UP.out (by rfl)) rfl ?_
            have e1 : psP bs = p := by unfold psP; rw [if_pos E.out]; exact EPK.out
            have e2 : psX bs = X1 := by unfold psX; rw [if_pos E.out]; exact EXX.out.symm
            refine ⟨A', n, c', by rw [e1, E.out, EPV.out], ?_, fun_setRow SB6.out⟩
            rw [e2]
            have OO : Own .u8 5 (v7.setRow w.heap.size PK) wr.heap.size (.slice A' n c') X1 := OV6.out.keep fun k h1 h2 => setRow_other _ _ _ _ (show k ≠ w.heap.size by have := LW.out; have := LG.out; omega)
            exact OO.nums
end Go.Proofs.Ytbhcpbihbecphaa.sxC
