/-
  2 texts of a proof, joined.
-/
import Derived.Test.YtflfkhcbkhdahaaMg23
import Derived.Test.YtflfkhcbkhdahaaMg9
import Derived.Test.YtflfkhcbkhdahaaMg13

/-
  Rings that nobody made.
-/
namespace Go.Proofs.Ytflfkhcbkhdahaa.mkC
open Go.ChangeShapes Go.WideShapes Go.ChangeAt Go.RowKit
open Go.Proofs.Ytflfkhcbkhdahaa.memC Go.Proofs.Ytflfkhcbkhdahaa.genC Go.Proofs.Ytflfkhcbkhdahaa.butC Go.Proofs.Ytflfkhcbkhdahaa.freeC Go.Proofs.Ytflfkhcbkhdahaa.adC Go.Proofs.Ytflfkhcbkhdahaa.rtC
set_option linter.unusedVariables false
/-- the zero value of the program's Ring -/
def zRing : Array Value := #[.pointer none, .slice none 0 0, .int .i64 0]
theorem zRing_built : Try.prog.built 69 [] = some zRing := by kernel_rfl
/-- nothing found -/
def NoneR (w : World) (e : Ending) (w' : World) : Prop := ∃ q : Ke, KeAt w' w'.heap.size q ∧ q.val = zKp ∧ e = .returned (.tuple #[.agg q.V, .int .i64 2]) ∧ Below w.heap.size w w'
/-- what the program's functions do with rings that nobody made -/
structure Nob (NM : World → Value → Prop) : Prop where
  below : ∀ (w w' : World) (pv : Value), NM w pv → Below w.heap.size w w' → NM w' pv
  nil : ∀ w, NM w (.pointer none)
  zero : ∀ w t, w.heap[t]? = some (.cells zRing 69 (0, 0)) → NM w (.pointer (some ⟨t, 0, none⟩))
  add : ∀ (w : World) (pv : Value) (q : Ke), NM w pv → KeAt w w.heap.size q → q.n ≤ 200 → Calls Try.prog 12 #[pv, .agg q.V] w (Ret w (.tuple #[.int .i64 0, .int .i64 2]))
  drop : ∀ (w : World) (pv : Value) (n : Int), NM w pv → Calls Try.prog 10 #[pv, .int .i64 n] w (Ret w (.int .i64 2))
  get : ∀ (w : World) (pv : Value) (n : Int), NM w pv → Calls Try.prog 19 #[pv, .int .i64 n] w (NoneR w)
  sends : ∀ (w : World) (pv : Value) (p : Pr) (i : Int), NM w pv → p.Ok → Byte i → Calls Try.prog 15 #[pv, .agg (prV p), .int .u8 i] w (NoneR w)
  gets : ∀ (w : World) (pv : Value) (p : Pr) (i : Int), NM w pv → p.Ok → Byte i → Calls Try.prog 17 #[pv, .agg (prV p), .int .u8 i] w (NoneR w)
  all : ∀ (w : World) (pv : Value), NM w pv → Calls Try.prog 23 #[pv] w fun e w' => ∃ A c, e = .returned (.slice A 0 c) ∧ Below w.heap.size w w'
  for_ : ∀ (w : World) (pv : Value) (p : Pr), NM w pv → p.Ok → Calls Try.prog 24 #[pv, .agg (prV p)] w fun e w' => ∃ A c, e = .returned (.slice A 0 c) ∧ Below w.heap.size w w'
/-- three made ones -/
theorem made3 : madeCells (Value.agg (ktV zKt none 0 0)).cells (3 * 26) = (flatK [zKe, zKe, zKe]).toArray := by kernel_rfl
theorem run_make3 (w : World) : (Instr.makeSlice 33 (.int .i64 3) (.int .i64 3)).run Try.prog w = .ok (.slice (some ⟨w.heap.size, 0, none⟩) 3 3) (w.alloc (.cells (flatK [zKe, zKe, zKe]).toArray 41)) := by
  obtain ⟨ie, hie, he⟩ := Option.map_eq_some_iff.1 rk_infoK
  obtain ⟨hz, he2⟩ := Prod.mk.inj he
  obtain ⟨hs, hb⟩ := Prod.mk.inj he2
  have h := run_make (P := Try.prog) w 33 41 ie _ Try.underlying33 hie hz .i64 .i64 3 3 (by decide) (by decide) (by rw [hb]; decide) (by decide)
  rw [hs] at h
  rw [← made3]
  exact h
theorem make3_J {R : Value → World → Prop} {fr : Act} {o : Oper} {w : World} {Q : Exit → Act → World → Prop} (ho : o.op = .makeSlice 33 (.const (.int .i64 3)) (.const (.int .i64 3)))
    (h : R (.slice (some ⟨w.heap.size, 0, none⟩) 3 3) (w.alloc (.cells (flatK [zKe, zKe, zKe]).toArray 41))) : o.wp Try.prog fr w (fun a' w' => ∃ v, a' = fr.put o.dst v ∧ R v w') Q := by
  refine val_J (v := .slice (some ⟨w.heap.size, 0, none⟩) 3 3) ?_ h
  have e : fr.eval (.const (.int .i64 3)) = .int .i64 3 := rfl
  simp [execOp, ho, e, run_make3 w, Result.andThen]
/-- a step of a key alone -/
def skOf (e : Ke) : Sk := ⟨false, 0, e⟩
set_option maxRecDepth 100000 in
theorem sk_built0 (s op : Bool) (a0 a1 a2 a3 a4 a5 a6 a7 a8 a9 a10 a11 a12 a13 a14 a15 n ln lp rp si ri al : Int) (A : Option Addr) (m c : Nat) (xs : List Int) : Try.prog.built 43 [(2, .agg (ktV ⟨n, s, [a0, a1, a2, a3, a4, a5, a6, a7, a8, a9, a10, a11, a12, a13, a14, a15], ln, lp, rp, si, ri, al, op⟩ A m c))] = some (Sk.cells (skOf ⟨⟨n, s, [a0, a1, a2, a3, a4, a5, a6, a7, a8, a9, a10, a11, a12, a13, a14, a15], ln, lp, rp, si, ri, al, op⟩, A, m, c, xs⟩)).toArray := by kernel_rfl
theorem sk_built {e : Ke} (h : e.k.Ok) : Try.prog.built 43 [(2, .agg e.V)] = some (Sk.cells (skOf e)).toArray := by
  obtain ⟨k, A, m, c, xs⟩ := e
  obtain ⟨a0, a1, a2, a3, a4, a5, a6, a7, a8, a9, a10, a11, a12, a13, a14, a15, ha⟩ := len16M h.la
  cases k
  simp only at ha
  subst ha
  exact sk_built0 _ _ _ _ _ _ _ _ _ _ _ _ _ _ _ _ _ _ _ _ _ _ _ _ _ _ _ _ _
theorem step_infoK : (Try.prog.info? 43).map (fun i => (i.zero, i.size, i.bytes)) = some (some (.agg zSk.cells.toArray), 28, 104) := by kernel_rfl
/-- a slice of one step -/
theorem wpList_sliceSk {ops : Array Oper} {rest : List Oper} {o : Oper} {a : Act} {w : World} {Q : Exit → Act → World → Prop} (hg : o.guard = none) (x : Operand) (ho : o.op = .buildSlice 22 1 #[(0, x)]) (C : Array Value) (hx : a.eval x = .agg C) (hC : C.size = 28)
    (h : wpList Try.prog ops Q rest (a.put o.dst (.slice (some ⟨w.heap.size, 0, none⟩) 1 1)) (w.alloc (.cells C 43))) : wpList Try.prog ops Q (o :: rest) a w := by
  obtain ⟨ie, hie, he⟩ := Option.map_eq_some_iff.1 step_infoK
  obtain ⟨hz, he2⟩ := Prod.mk.inj he
  obtain ⟨hs, hb⟩ := Prod.mk.inj he2
  refine wpList_buildSlice hg 22 43 1 _ ho C ie _ Try.underlying22 hie hz (by rw [hs]; decide) (by rw [hs]; decide) ?_ h
  rw [hs]
  have := Great.fill_whole (s := 28) (by decide) [Value.agg C] ((Array.range (1 * 28)).map ((Value.agg zSk.cells.toArray).cells[· % (Value.agg zSk.cells.toArray).cells.size]!)) (by simpa [Value.cells] using hC) (by simp)
  simpa [hx, Value.cells] using this
theorem sks1 {w : World} {g : Nat} {e : Ke} (hr : w.heap[g]? = some (.cells (Sk.cells (skOf e)).toArray 43 (0, 0))) (he : KeAt w w.heap.size e) : SksK w w.heap.size (some ⟨g, 0, none⟩) 1 [skOf e] := by
  refine ⟨rfl, fun _ => ⟨g, 0, rfl, (Array.getElem?_eq_some_iff.1 hr).1, fun i f hf j v hv => ?_⟩, fun s hs => by rw [List.mem_singleton.1 hs]; exact ⟨by unfold skOf; simp, he⟩⟩
  match i, hf with
  | 0, hf =>
    simp at hf
    subst hf
    rw [cell_of_row w g (0 + 0 * 28 + j) _ _ (0, 0) hr, List.getElem?_toArray, show 0 + 0 * 28 + j = j by omega]
    exact hv
end Go.Proofs.Ytflfkhcbkhdahaa.mkC

/-
  The walk of MktNobody.
-/
namespace Go.Proofs.Ytflfkhcbkhdahaa.mkC
open Go.ChangeShapes Go.WideShapes Go.ChangeAt Go.RowKit
open Go.Proofs.Ytflfkhcbkhdahaa.memC Go.Proofs.Ytflfkhcbkhdahaa.genC Go.Proofs.Ytflfkhcbkhdahaa.butC Go.Proofs.Ytflfkhcbkhdahaa.freeC Go.Proofs.Ytflfkhcbkhdahaa.adC Go.Proofs.Ytflfkhcbkhdahaa.rtC
set_option linter.unusedVariables false
attribute [local go_sem] Oper.semAt_some
theorem neq_runM {P : Program} {o : Oper} {a : Act} {w : World} {T : TypeId} {s x : Operand} {S S' : ByteArray} {R : TypeId} {q : Bool} (ho : o.op = .binOp .neq T s x R) (hs : a.eval s = .string S) (hx : a.eval x = .string S') (hq : (S.toList == S'.toList) = q) : (execOp a.eval o).run P w = .ok (.value (.bool !q)) w := by
  unfold execOp
  rw [ho]
  simp only [hs, hx]
  go_simp
theorem add_one (k : Kp) : (addR ⟨0, []⟩ k).l = [] ∨ (addR ⟨0, []⟩ k).l = [({ k.1 with n := 1 }, k.2)] := by
  unfold addR
  split
  · exact .inr rfl
  · exact .inl rfl
/-- a block of bytes -/
def MasterW (w : World) (g n : Nat) : Prop := ∃ cs, w.heap[g]? = some (.cells cs 5 (0, 0)) ∧ ∀ i, i < n → ∃ z, cs[i]? = some (.int .u8 z) ∧ Byte z
theorem MasterW.lt {w : World} {g n : Nat} (h : MasterW w g n) : g < w.heap.size := by obtain ⟨cs, h1, -⟩ := h; exact lt_of_row h1
theorem MasterW.same {w w' : World} {g n : Nat} (h : MasterW w g n) (he : w'.heap[g]? = w.heap[g]?) : MasterW w' g n := by obtain ⟨cs, h1, h2⟩ := h; exact ⟨cs, he.trans h1, h2⟩
theorem MasterW.set {w : World} {g n i : Nat} {z : Int} (h : MasterW w g n) (hz : Byte z) : MasterW (w.setCell ⟨g, i, none⟩ (.int .u8 z)) g n := by
  obtain ⟨cs, h1, h2⟩ := h
  refine ⟨_, heap_setCell_same w g i _ _ (.int .u8 z) h1, fun j hj => ?_⟩
  obtain ⟨y, h3, h4⟩ := h2 j hj
  by_cases e : i = j
  · subst e
    have hlt := (Array.getElem?_eq_some_iff.1 h3).1
    exact ⟨z, by rw [Array.getElem?_setIfInBounds, if_pos rfl, if_pos hlt], hz⟩
  · exact ⟨y, by rw [Array.getElem?_setIfInBounds, if_neg e]; exact h3, h4⟩
theorem master_of {w : World} {base : Nat} {e : Ke} (h : Own .u8 5 w base (.slice e.A e.n e.c) e.m) (k : KeAt w w.heap.size e) (hn : 0 < e.n) : ∃ g, e.A = some ⟨g, 0, none⟩ ∧ base ≤ g ∧ MasterW w g e.n := by
  rcases h.2 with ⟨h0, h1⟩ | ⟨g, cap, cur, e9, hb, hh, hl, hm, hs, ht⟩
  · have := k.len; omega
  · injection e9 with e1 e2 e3
    refine ⟨g, e1, hb, cur, hh, fun i hi => ?_⟩
    have hlen := k.len
    have hi2 : i < e.m.length := by omega
    have h4 : (cur.toList.take (e.m.length * 1))[i]? = some (.int .u8 e.m[i]) := by rw [ht, List.getElem?_map, List.getElem?_eq_getElem hi2]; rfl
    rw [List.getElem?_take_of_lt (by omega), Array.getElem?_toList] at h4
    exact ⟨_, h4, k.byte _ (List.getElem_mem hi2)⟩
def nbV (pv : Value) (bp g9 g11 g13 : Nat) (CP : Array Value) (q9 q11 q13 : Ke) : Nat → Value → World → Prop
  | 0, v, _ => v = .int .i64 0
  | 1, v, _ => v = .bool false
  | 2, v, _ => v = .bool false
  | 3, v, _ => v = .int .i64 2
  | 4, v, _ => v = .bool false
  | 5, v, _ => v = .bool false
  | 6, v, _ => v = .bool false
  | 7, v, _ => v = pv
  | 8, v, _ => v = .int .i64 2
  | 9, v, _ => v = .bool false
  | 10, v, _ => v = .bool false
  | 11, v, _ => v = .bool false
  | 12, v, _ => v = .agg (Ke.V q9)
  | 13, v, _ => v = .agg (Ke.V q11)
  | 14, v, _ => v = .agg (Ke.V q13)
  | 15, v, w => ∃ A' n' c' es', v = .slice A' n' c' ∧ KsP w A' n' c' es' [zKp, zKp, zKp]
  | 16, v, w => ∃ A' n' c' es', v = .slice A' n' c' ∧ KsP w A' n' c' es' [zKp, zKp, zKp]
  | 17, v, w => ∃ A' n' c' es', v = .slice A' n' c' ∧ KsP w A' n' c' es' [zKp, zKp, zKp]
  | 18, v, _ => v = .bool true
  | 19, v, _ => v = .bool false
  | 20, v, _ => v = .bool false
  | 21, v, _ => v = .bool false
  | 22, v, _ => v = .int .i64 2
  | 23, v, _ => v = .bool false
  | 24, v, _ => v = .bool false
  | 25, v, _ => v = .bool false
  | 26, v, _ => v = .int .i64 2
  | 27, v, _ => v = .bool false
  | 28, v, _ => v = .bool false
  | 29, v, _ => v = .bool false
  | 30, v, _ => v = .int .i64 2
  | 31, v, _ => v = .bool false
  | 32, v, _ => v = .bool false
  | 33, v, _ => v = .bool false
  | 34, v, _ => v = pv
  | 35, v, w => ∃ A' c', v = .slice A' 0 c' ∧ True
  | 36, v, _ => v = .int .i64 0
  | 37, v, _ => v = pv
  | 38, v, _ => v = .agg CP
  | 39, v, w => ∃ A' c', v = .slice A' 0 c' ∧ True
  | 40, v, _ => v = .int .i64 0
  | 41, v, _ => v = .int .i64 0
  | 42, v, _ => v = .bool false
  | 43, v, _ => v = .bool false
  | _, _, _ => True
theorem nbV.keep (pv : Value) (bp g9 g11 g13 : Nat) (CP : Array Value) (q9 q11 q13 : Ke) (i : Nat) (v : Value) (w w' : World) (hb : Below w.heap.size w w') (h : nbV pv bp g9 g11 g13 CP q9 q11 q13 i v w) : nbV pv bp g9 g11 g13 CP q9 q11 q13 i v w' := by
  by_cases e15 : i = 15
  · subst e15
    obtain ⟨A', n', c', es', h1, h2⟩ := h
    exact ⟨A', n', c', es', h1, h2.below hb⟩
  by_cases e16 : i = 16
  · subst e16
    obtain ⟨A', n', c', es', h1, h2⟩ := h
    exact ⟨A', n', c', es', h1, h2.below hb⟩
  by_cases e17 : i = 17
  · subst e17
    obtain ⟨A', n', c', es', h1, h2⟩ := h
    exact ⟨A', n', c', es', h1, h2.below hb⟩
  by_cases e35 : i = 35
  · subst e35
    exact h
  by_cases e39 : i = 39
  · subst e39
    exact h
  unfold nbV at h ⊢
  split at h <;> first | exact h | exact absurd rfl (by assumption)
def nbT : List (Option Nat) := [none, none, none, none, none, none, none, none, none, none, none, none, none, none, none, none, none, none, none, none, none, none, none, none, none, none, none, none, none, none, none, none, none, none, none, none, none, none, none, none, none, none, none, none, none, none, none, none, none, none, none, none, none, none, none, none, none, none, none, none, none, none, some 0, some 1, some 2, some 3, some 4, some 5, some 6, some 7, some 8, some 9, some 10, some 11, some 12, some 13, some 14, some 15, some 16, some 17, some 18, some 19, some 20, some 21, some 22, some 23, some 24, some 25, some 26, some 27, some 28, some 29, some 30, some 31, some 32, some 33, some 34, some 35, some 36, some 37, some 38, some 39, some 40, some 41, some 42, some 43, none, none, none, none, none, none, none, none, none, none, none, none, none, none, none, none, none, none, none, none, none, none, none, none, none, none, none, none, none, none, none, none, none, none, none, none, none, none, none, none, none, none, none, none, none, none]
set_option maxRecDepth 100000 in
set_option maxHeartbeats 16000000 in
theorem nobody_walk {Tb : World → (Nat → Prop) → Nat → Rg → Prop} (F : FrK Tb) {NM : World → Value → Prop} (N : Nob NM) (hal : Alive) (q : Ke) (p : Pr) (w : World) (hq : KeAt w w.heap.size q) (hp : p.Ok) :
    Calls Try.prog 5 #[.agg q.V, .agg (prV p)] w (Ret w (.bool true)) := by
  obtain ⟨W0, hW0⟩ : ∃ W, W = w.alloc (.cells q.V 41) := ⟨_, rfl⟩
  have z0 : W0.heap.size = w.heap.size + 1 := by rw [hW0, alloc_size]
  obtain ⟨W, hW⟩ : ∃ W, W = W0.alloc (.cells (prV p) 30) := ⟨_, rfl⟩
  obtain ⟨bk, hbk⟩ : ∃ b, b = w.heap.size := ⟨_, rfl⟩
  obtain ⟨bp, hbp⟩ : ∃ b, b = w.heap.size + 1 := ⟨_, rfl⟩
  have HB := Lib.hid (show Below w.heap.size w W by rw [hW, hW0]; exact ((Below.refl _ _).alloc (Nat.le_refl _) _).alloc (by simp) _)
  have RK := Lib.hid (show W.heap[bk]? = some (.cells q.V 41 (0, 0)) by rw [hW, Below.block (alloc_below _ _) _ (by rw [z0, hbk]; omega), hW0, hbk]; exact heap_alloc_new w _)
  have RP := Lib.hid (show W.heap[bp]? = some (.cells (prV p) 30 (0, 0)) by rw [hW, hbp, ← z0]; exact heap_alloc_new _ _)
  have IP := Lib.hid (prV_info hp)
  have IK := Lib.hid (show (Try.prog.info? 41).map (·.size) = some q.V.size by rw [Ke.V_size hq]; exact rk_info)
  have SBT := Lib.hid (sk_built hq.ok)
  have SSZ := Lib.hid (show (Sk.cells (skOf q)).toArray.size = 28 by rw [List.size_toArray]; exact Sk.cells_len hq.ok)
  have AC := Lib.hid (show ∀ w' : World, Calls Try.prog 8 #[] w' (Ret w' (.bool true)) from hal)
  have HQ := Lib.hid (hq.below HB.out HB.out.size)
  have HPO := Lib.hid hp
  have TH := Lib.hid (fun w' => (show Calls Try.prog 13 #[.agg q.V] w' (Ret w' (.agg q.V)) from theirs_any q.k q.A q.n q.c w' hq.ok))
  have KPWW := Lib.hid (fun w' (h : Below W.heap.size W w') => (show w'.heap[bp]? = some (.cells (prV p) 30 (0, 0)) from (h.block _ (lt_of_row RP.out)).trans RP.out))
  have KKWW := Lib.hid (fun w' (h : Below W.heap.size W w') => (show w'.heap[bk]? = some (.cells q.V 41 (0, 0)) from (h.block _ (lt_of_row RK.out)).trans RK.out))
  have KSWW := Lib.hid (fun w' (h : Below W.heap.size W w') => (show w'.cell? ⟨bk, 21, none⟩ = some (.int .u8 q.k.si) from kt_cell (KKWW.out w' h) (kt_si hq.ok)))
  have KRWW := Lib.hid (fun w' (h : Below W.heap.size W w') => (show w'.cell? ⟨bk, 22, none⟩ = some (.int .u8 q.k.ri) from kt_cell (KKWW.out w' h) (kt_ri hq.ok)))
  have NB := Lib.hid N.below
  have NZ := Lib.hid N.zero
  have NN := Lib.hid N.nil
  have NAD := Lib.hid N.add
  have DRC := Lib.hid N.drop
  have GEC := Lib.hid N.get
  have SDC := Lib.hid (fun w' pv (h : NM w' pv) => N.sends w' pv p q.k.si h hp hq.ok.si)
  have GTC := Lib.hid (fun w' pv (h : NM w' pv) => N.gets w' pv p q.k.ri h hp hq.ok.ri)
  have ALC := Lib.hid N.all
  have FOC := Lib.hid (fun w' pv (h : NM w' pv) => N.for_ w' pv p h hp)
  have NC := Lib.hid (fun (w' : World) => F.new w')
  have KTB := Lib.hid F.keep
  have LTK := Lib.hid F.lt
  have ADC := Lib.hid F.add
  have ACC := Lib.hid F.all
  obtain ⟨ZV, hZV⟩ : ∃ Z, Z = ktV zKt none 0 0 := ⟨_, rfl⟩
  have HZP := Lib.hid (show ∀ w' : World, (zeroValue 49).run Try.prog w' = .ok (.agg ZV) w' by rw [hZV]; exact zeroPk)
  have ZSZ := Lib.hid (show ZV.size = 26 by rw [hZV]; exact zV_size)
  obtain ⟨CT, hCT⟩ : ∃ C, C = zRing := ⟨_, rfl⟩
  have TB := Lib.hid zRing_built
  rw [← hCT] at TB NZ
  generalize prV p = CP at *
  clear F N hal hq hp hZV hCT
  have hzp0 := HZP.out
  go_enter Try.func5, Try.ntmps5
  go_upto_region 1 with fail
  rw [← hW0]
  rw [← hW]
  try rw [z0]
  rw [← hbp]
  rw [← hbk]
  clear hW0 hW hbp hbk z0 hzp0
  obtain ⟨w2, hw2⟩ : ∃ v, v = W.alloc (.cells (Sk.cells (skOf q)).toArray 43) := ⟨_, rfl⟩
  have B2 := Lib.hid (show Below W.heap.size W w2 by rw [hw2]; exact alloc_below _ _)
  have FA := Lib.hid (far_any (some ⟨W.heap.size, 0, none⟩) 1 1 [skOf q] w2 (sks1 (by rw [hw2]; exact heap_alloc_new _ _) (HQ.out.below B2.out B2.out.size)) (Nat.le_refl _))
  have HFQ := Lib.hid (show farK ([skOf q].take 100) = decide (200 < q.n) by unfold farK; simp [skOf])
  have HW2 := Lib.hid hw2
  clear hw2
  rw [HFQ.out] at FA
  obtain ⟨CS, hCS⟩ : ∃ C, C = (Sk.cells (skOf q)).toArray := ⟨_, rfl⟩
  rw [← hCS] at SBT SSZ HW2
  clear hCS
  by_cases hfar : 200 < q.n
  · rw [decide_eq_true hfar] at FA
    clear hfar
    go_wp2_with (first
      | (refine wpList_load_row rfl 41 (.tmp 2) rfl bk rfl _ _ _ _ RK.out Try.underlying41 rfl IK.out ?_)
      | (with_reducible refine at_build 43 ?_; refine wpList_runG (by kernel_rfl) _ (built_runM (T := 43) (L := [(2, .agg q.V)]) rfl rfl SBT.out) ?_)
      | (refine wpList_sliceSk rfl (.tmp 22) rfl CS rfl SSZ.out ?_; rw [← HW2.out])
      | (go_at_call 7; (with_reducible refine FA.out.mono ?_); rintro e w3 ⟨rfl, hb⟩
         have B3 := Lib.hid hb
         clear hb)
      | (go_at_call 8; (with_reducible refine (AC.out _).mono ?_); rintro e w4 ⟨rfl, hb⟩
         have B4 := Lib.hid hb
         clear hb))
    go_ret
    exact ⟨rfl, HB.out.trans ((B2.out.trans ((B3.out.trans (B4.out.mono B3.out.size)).mono B2.out.size)).mono HB.out.size)⟩
  rw [decide_eq_false hfar] at FA
  have NQ := Lib.hid (show q.n ≤ 200 by omega)
  clear hfar
  go_upto_region 3 with (first
    | (refine wpList_load_row rfl 41 (.tmp 2) rfl bk rfl _ _ _ _ RK.out Try.underlying41 rfl IK.out ?_)
    | (with_reducible refine at_build 43 ?_; refine wpList_runG (by kernel_rfl) _ (built_runM (T := 43) (L := [(2, .agg q.V)]) rfl rfl SBT.out) ?_)
    | (refine wpList_sliceSk rfl (.tmp 22) rfl CS rfl SSZ.out ?_; rw [← HW2.out])
    | (go_at_call 7; (with_reducible refine FA.out.mono ?_); rintro e w3 ⟨rfl, hb⟩
       have B3 := Lib.hid (B2.out.trans (hb.mono B2.out.size))
       clear hb))
  clear FA HW2 SBT HFQ
  obtain ⟨W3, hW3⟩ : ∃ W3, W3 = w3.alloc (.cells CT 69) := ⟨_, rfl⟩
  obtain ⟨W4, hW4⟩ : ∃ W4, W4 = W3.alloc (.cells #[.pointer none, .pointer (some ⟨w3.heap.size, 0, none⟩)] 31) := ⟨_, rfl⟩
  have RT := Lib.hid (show W3.heap[w3.heap.size]? = some (.cells CT 69 (0, 0)) by rw [hW3]; exact heap_alloc_new _ _)
  have RS := Lib.hid (show W4.heap[W3.heap.size]? = some (.cells #[.pointer none, .pointer (some ⟨w3.heap.size, 0, none⟩)] 31 (0, 0)) by rw [hW4]; exact heap_alloc_new _ _)
  have B4a := Lib.hid (show Below w3.heap.size w3 W3 by rw [hW3]; exact alloc_below _ _)
  have B4b := Lib.hid (show Below W3.heap.size W3 W4 by rw [hW4]; exact alloc_below _ _)
  have N4 := Lib.hid (show ∀ k, k < 2 → ∃ pv, W4.cell? ⟨W3.heap.size, k, none⟩ = some pv ∧ NM W4 pv from fun k hk => by
    rcases Nat.lt_succ_iff_lt_or_eq.1 hk with hk | rfl
    · obtain rfl : k = 0 := by omega
      exact ⟨_, cell_of_row W4 _ 0 _ _ (0, 0) RS.out, NN.out _⟩
    · exact ⟨_, cell_of_row W4 _ 1 _ _ (0, 0) RS.out, NZ.out _ _ ((B4b.out.block _ (lt_of_row RT.out)).trans RT.out)⟩)
  have HW4 := Lib.hid (show Below W.heap.size W W4 from B3.out.trans ((B4a.out.trans (B4b.out.mono B4a.out.size)).mono B3.out.size))
  obtain ⟨gs, hgs⟩ : ∃ g, g = w3.heap.size + 1 := ⟨_, rfl⟩
  have hg3 : W3.heap.size = gs := by rw [hW3, hgs]; simp
  rw [hg3] at N4
  have GSL := Lib.hid (show gs < W4.heap.size by rw [← hg3]; exact lt_of_row RS.out)
  have HS3 := Lib.hid hW3
  have HS4 := Lib.hid hW4
  clear hW3 hW4 RT RS B4a B4b hg3
  go_upto_region 4 with (first
    | (with_reducible refine at_build 69 ?_; refine adC.wpList_zero rfl 69 rfl CT TB.out ?_))
  try rw [← HS3.out]
  try rw [← hgs]
  try rw [← HS4.out]
  clear hgs HS3 HS4 TB NZ NN
  go_loopw [30] (fun u wr => ∃ k : Nat, u = .int .i64 k ∧ k ≤ 2 ∧ Below W4.heap.size W4 wr) (fun u _ => 10 - (intOf u).toNat)
  case atStart => exact ⟨0, rfl, by decide, Below.refl _ _⟩
  case round =>
    obtain ⟨kk, rfl, hk, hb⟩ := hrel
    have BW := Lib.hid hb
    have BWW := Lib.hid (show Below W.heap.size W wr from HW4.out.trans (hb.mono HW4.out.size))
    by_cases hk2 : kk < 2
    rotate_left
    · have qk : ¬ (kk : Int) < 2 := by omega
      clear hb hk hk2
      go_upto_region 14 with (first
        | (go_at_call 6; (refine (NC.out _).mono ?_); rintro e y13 ⟨t, S1, rfl, hT, hS, hb⟩
           have B13 := Lib.hid (show Below W.heap.size W y13 from BWW.out.trans (hb.mono BWW.out.size))
           have T13 := Lib.hid hT
           have S13 := Lib.hid (show ∀ k, S1 k → W.heap.size ≤ k from fun k hk => Nat.le_trans BWW.out.size (hS k hk))
           clear hT hS hb))
      have he1 := eql_ptr_nilM (P := Try.prog) y13 ⟨t, 0, none⟩ Try.underlying31
      have KK13 := Lib.hid (KKWW.out y13 B13.out)
      go_upto_region 17 with (first
        | (refine wpList_load_row rfl 41 (.tmp 2) rfl bk rfl _ _ _ _ KK13.out Try.underlying41 rfl IK.out ?_)
        | (go_at_call 13; (with_reducible refine (TH.out _).mono ?_); rintro e y15 ⟨rfl, hb⟩
           have B15 := Lib.hid (show Below W.heap.size W y15 from B13.out.trans (hb.mono B13.out.size))
           have T15 := Lib.hid (KTB.out _ _ _ _ _ T13.out hb.size (fun k hk => hb.block k (LTK.out _ _ _ _ T13.out k hk)))
           have KQ15 := Lib.hid (show KeAt y15 y15.heap.size q from HQ.out.below B15.out B15.out.size)
           clear hb)
        | (go_at_call 12; (with_reducible refine (ADC.out _ _ _ _ q T15.out Inv.zero KQ15.out NQ.out).mono ?_); rintro e y16 ⟨rfl, S2, hT, hS, hF⟩
           have T16 := Lib.hid hT
           have B16 := Lib.hid (show Below W.heap.size W y16 from B15.out.trans (hF.to_below S13.out B15.out.size))
           clear hT hS hF))
      clear he1 KK13
      have INV := Lib.hid (Inv.zero.add (k := q.val) HQ.out.ok HQ.out.byte)
      have ONE := Lib.hid (add_one q.val)
      generalize addR ⟨0, []⟩ q.val = rg1 at *
      go_upto_region 18 with (first
        | (go_at_call 23; (with_reducible refine (ACC.out _ _ _ _ T16.out INV.out).mono ?_); rintro e y17 ⟨A5, n5, c5, es, rfl, hnc, hown, hlen, hval, hke, hb⟩
           have F5 := Lib.hid hown
           have LN5 := Lib.hid hlen
           have VL5 := Lib.hid hval
           have KE5 := Lib.hid hke
           have B17 := Lib.hid hb
           clear hnc hown hlen hval hke hb))
      have L1 := Lib.hid (show n5 ≤ 1 by
        have h1 := VL5.out
        rw [← LN5.out, ← List.length_map (f := Ke.val), h1]
        rcases ONE.out with h | h <;> rw [h] <;> simp)
      obtain ⟨A5', c5', e5, -, -, hr5⟩ := F5.out.form (fun z hz => Ke.L_len (KE5.out z hz).1)
      rw [LN5.out] at e5 hr5
      cases e5
      have ROW5 := Lib.hid hr5
      clear hr5
      go_loopw [117] (fun u wr => ∃ j : Nat, u = .int .i64 j ∧ j ≤ n5 ∧ Below y16.heap.size y16 wr ∧ (j = 0 → y17 = wr)) (fun u _ => n5 + 1 - (intOf u).toNat)
      case atStart => exact ⟨0, rfl, Nat.zero_le _, B17.out, fun _ => rfl⟩
      case round =>
        obtain ⟨j, rfl, hj, hb, hj0⟩ := hrel
        have B19 := Lib.hid hb
        by_cases hlt : j < n5
        rotate_left
        · have q7 : ¬ (j : Int) < (n5 : Int) := by omega
          have T26 := Lib.hid (KTB.out _ _ _ _ _ T16.out hb.size (fun k hk => hb.block k (LTK.out _ _ _ _ T16.out k hk)))
          clear hj hb hj0 hlt
          go_upto_region 27 with (first
            | (go_at_call 23; (with_reducible refine (ACC.out _ _ _ _ T26.out INV.out).mono ?_); rintro e y27 ⟨A6, n6, c6, es6, rfl, hnc, hown, hlen, hval, hke, hb⟩
               have F6 := Lib.hid hown
               have LN6 := Lib.hid hlen
               have VL6 := Lib.hid hval
               have KE6 := Lib.hid hke
               have B27 := Lib.hid hb
               clear hnc hown hlen hval hke hb))
          have L6 := Lib.hid (show n6 ≤ 1 by
            have h1 := VL6.out
            rw [← LN6.out, ← List.length_map (f := Ke.val), h1]
            rcases ONE.out with h | h <;> rw [h] <;> simp)
          have M6 := Lib.hid (show ∀ z ∈ es6, z.m = q.m from fun z hz => by
            have h1 := VL6.out
            have h2 : z.val ∈ rg1.l := by rw [← h1]; exact List.mem_map.2 ⟨z, hz, rfl⟩
            rcases ONE.out with h | h
            · rw [h] at h2; cases h2
            · rw [h] at h2; have h3 := List.mem_singleton.1 h2; exact (Prod.mk.inj h3).2)
          obtain ⟨A6', c6', e6, -, -, hr6⟩ := F6.out.form (fun z hz => Ke.L_len (KE6.out z hz).1)
          rw [LN6.out] at e6 hr6
          cases e6
          have ROW6 := Lib.hid hr6
          have B27W := Lib.hid (show Below W.heap.size W y27 from B16.out.trans ((B19.out.trans (B27.out.mono B19.out.size)).mono B16.out.size))
          clear hr6
          go_loopw [139] (fun u wr => ∃ j : Nat, u = .int .i64 j ∧ j ≤ n6 ∧ Below y27.heap.size y27 wr) (fun u _ => n6 + 1 - (intOf u).toNat)
          case atStart => exact ⟨0, rfl, Nat.zero_le _, Below.refl _ _⟩
          case round =>
            obtain ⟨j, rfl, hj, hb⟩ := hrel
            have B29 := Lib.hid hb
            by_cases hlt : j < n6
            rotate_left
            · have q8 : ¬ (j : Int) < (n6 : Int) := by omega
              clear hj hb hlt
              go_wp2_with (first
                | (go_at_call 8; (with_reducible refine (AC.out _).mono ?_); rintro e w9 ⟨rfl, hb⟩
                   have B9 := Lib.hid hb
                   clear hb))
              go_ret
              exact ⟨rfl, HB.out.trans ((B27W.out.trans ((B29.out.trans (B9.out.mono B29.out.size)).mono B27W.out.size)).mono HB.out.size)⟩
            have q8 : (j : Int) < (n6 : Int) := by omega
            have wj : IntKind.i64.wrap ((j : Int) + 1) = (j : Int) + 1 := IntWalk.i64_in _ (by have := L6.out; omega)
            obtain ⟨e, hei⟩ : ∃ e, es6[j]? = some e := ⟨_, List.getElem?_eq_getElem (by rw [LN6.out]; exact hlt)⟩
            have me := List.mem_of_getElem? hei
            have ke := (KE6.out e me).1
            obtain ⟨b6, o6, hA6, -, hb6, c6s⟩ := (ROW6.out.below hb hb.size).at_ (by omega)
            subst hA6
            have C1 := Lib.hid (c6s j e hei)
            have IX := Lib.hid (show (Try.prog.info? 49).map (·.size) = some e.L.length by rw [Ke.L_len ke]; exact pk_info)
            have XI := Lib.hid (show (Try.prog.info? 49).map (·.size) = some e.L.toArray.size by rw [List.size_toArray, Ke.L_len ke]; exact pk_info)
            have XZ := Lib.hid (show ZV.size = e.L.toArray.size by rw [ZSZ.out, List.size_toArray, Ke.L_len ke])
            have XO := Lib.hid (show e.L.toArray.all (·.oneCell') = true from kt_ones)
            obtain ⟨y28, hy28⟩ : ∃ y, y = wr.alloc (.cells e.L.toArray 49) := ⟨_, rfl⟩
            obtain ⟨g20, hg20⟩ : ∃ g, g = wr.heap.size := ⟨_, rfl⟩
            have R20 := Lib.hid (show y28.heap[g20]? = some (.cells e.L.toArray 49 (0, 0)) by rw [hy28, hg20]; exact heap_alloc_new _ _)
            have A28 := Lib.hid (show Below wr.heap.size wr y28 by rw [hy28]; exact alloc_below _ _)
            have B28 := Lib.hid (show Below y27.heap.size y27 y28 from hb.trans (A28.out.mono hb.size))
            have C24 := Lib.hid (show y28.cell? ⟨g20, 24, none⟩ = some (.slice e.A e.n e.c) from kt_cell R20.out (kt_mst ke.ok))
            have K24 := Lib.hid (show y28.cell? ⟨bk, 24, none⟩ = some (.slice q.A q.n q.c) from kt_cell (KKWW.out y28 (B27W.out.trans (B28.out.mono B27W.out.size))) (kt_mst HQ.out.ok))
            have S1 := Lib.hid (show (convert 39 9 (.slice e.A e.n e.c)).run Try.prog y28 = .ok (.string (strOfNums q.m)) y28 by
              rw [← M6.out e me]
              exact run_string ((ke.below B28.out B28.out.size).nums) e.c 39 5 9 Try.underlying39 Try.underlying5 Try.underlying9)
            have S2 := Lib.hid (show (convert 39 9 (.slice q.A q.n q.c)).run Try.prog y28 = .ok (.string (strOfNums q.m)) y28 from
              run_string ((HQ.out.below (B27W.out.trans (B28.out.mono B27W.out.size)) (show W.heap.size ≤ y28.heap.size from Nat.le_trans B27W.out.size B28.out.size)).nums) q.c 39 5 9 Try.underlying39 Try.underlying5 Try.underlying9)
            have HJ := Lib.hid hlt
            have hzp := HZP.out
            generalize strOfNums q.m = XS at *
            have HXS := Lib.hid (show (XS.toList == XS.toList) = true from beq_self_eq_true _)
            generalize e.L = XC at *
            clear hei me ke hb6 c6s hb hlt hj
            go_upto_region 29 with (first
              | (refine pkC.wpList_load_partG (by kernel_rfl) 49 (.tmp 141) rfl b6 (o6 + j * 26) (by kernel_rfl) XC _ C1.out Try.underlying49 rfl IX.out ?_)
              | (refine wpList_store_row rfl 49 (.tmp 20) (.tmp 142) rfl wr.heap.size XC.toArray rfl rfl _ _ (heap_alloc_new _ _) XI.out XZ.out XO.out ?_; rw [World.setRow_alloc_new]))
            rw [← hy28]
            rw [← hg20]
            clear hy28 hg20 hzp
            have c24 := C24.out
            have k24 := K24.out
            have s1 := S1.out
            have s2 := S2.out
            go_wp2_with (first
              | (refine wpList_runG (by kernel_rfl) _ (neq_runM (T := 9) (s := .tmp 145) (x := .tmp 148) (S := XS) (S' := XS) (q := true) rfl (by kernel_rfl) (by kernel_rfl) HXS.out) ?_))
            go_roundw
            case rel => exact ⟨j + 1, by simp, HJ.out, B28.out⟩
            case measure => have := HJ.out; simp [intOf]; omega
        have hz : j = 0 := by have := L1.out; omega
        subst hz
        have hw := hj0 rfl
        subst hw
        have q7 : ((0 : Nat) : Int) < (n5 : Int) := by omega
        obtain ⟨e, hei⟩ : ∃ e, es[0]? = some e := ⟨_, List.getElem?_eq_getElem (by rw [LN5.out]; exact hlt)⟩
        have me := List.mem_of_getElem? hei
        have ke := (KE5.out e me).1
        have om := (KE5.out e me).2
        obtain ⟨b5, o5, hA5, -, hb5, c5s⟩ := ROW5.out.at_ (by omega)
        subst hA5
        have C1 := Lib.hid (show ∀ z u, e.L[z]? = some u → y17.cell? ⟨b5, o5 + z, none⟩ = some u from fun z u hu => by have h9 := c5s 0 e hei z u hu; rw [Nat.zero_mul, Nat.add_zero] at h9; exact h9)
        have IX := Lib.hid (show (Try.prog.info? 49).map (·.size) = some e.L.length by rw [Ke.L_len ke]; exact pk_info)
        have XI := Lib.hid (show (Try.prog.info? 49).map (·.size) = some e.L.toArray.size by rw [List.size_toArray, Ke.L_len ke]; exact pk_info)
        have XZ := Lib.hid (show ZV.size = e.L.toArray.size by rw [ZSZ.out, List.size_toArray, Ke.L_len ke])
        have XO := Lib.hid (show e.L.toArray.all (·.oneCell') = true from kt_ones)
        obtain ⟨y19, hy19⟩ : ∃ y, y = y17.alloc (.cells e.L.toArray 49) := ⟨_, rfl⟩
        obtain ⟨g17, hg17⟩ : ∃ g, g = y17.heap.size := ⟨_, rfl⟩
        have R17 := Lib.hid (show y19.heap[g17]? = some (.cells e.L.toArray 49 (0, 0)) by rw [hy19, hg17]; exact heap_alloc_new _ _)
        have A19 := Lib.hid (show Below y17.heap.size y17 y19 by rw [hy19]; exact alloc_below _ _)
        have B19b := Lib.hid (show Below y16.heap.size y16 y19 from B17.out.trans (A19.out.mono B17.out.size))
        have C24 := Lib.hid (fun (w' : World) (h : w'.heap[g17]? = some (.cells e.L.toArray 49 (0, 0))) => (show w'.cell? ⟨g17, 24, none⟩ = some (.slice e.A e.n e.c) from kt_cell h (kt_mst ke.ok)))
        have MW := Lib.hid (show 0 < e.n → ∃ g, e.A = some ⟨g, 0, none⟩ ∧ y16.heap.size ≤ g ∧ g ≠ g17 ∧ MasterW y19 g e.n from fun hn => by
          obtain ⟨g, h1, h2, h3⟩ := master_of om ke hn
          exact ⟨g, h1, h2, by have := h3.lt; omega, h3.same (A19.out.block g h3.lt)⟩)
        have NE := Lib.hid (show e.n ≤ 1000000 ∨ True from .inr trivial)
        have EC := Lib.hid (show e.n ≤ 9223372036854775807 from Nat.le_trans ke.cap ke.max)
        have HLT := Lib.hid hlt
        have hzp := HZP.out
        generalize e.L = XC at *
        generalize e.A = A9 at *
        generalize e.n = n9 at *
        generalize e.c = c9 at *
        clear hei me ke om hb5 c5s hb hlt hj hj0
        go_upto_region 20 with (first
          | (refine pkC.wpList_load_partG (by kernel_rfl) 49 (.tmp 119) rfl b5 o5 (by kernel_rfl) XC _ C1.out Try.underlying49 rfl IX.out ?_)
          | (refine wpList_store_row rfl 49 (.tmp 17) (.tmp 120) rfl y17.heap.size XC.toArray rfl rfl _ _ (heap_alloc_new _ _) XI.out XZ.out XO.out ?_; rw [World.setRow_alloc_new]))
        rw [← hy19]
        rw [← hg17]
        clear hy19 hg17 hzp
        have cm := C24.out y19 R17.out
        go_upto_region 21 with fail
        clear cm
        go_loopw [124] (fun u wr => ∃ i : Nat, u = .int .i64 i ∧ i ≤ n9 ∧ Below y16.heap.size y16 wr ∧ wr.heap[g17]? = some (.cells XC.toArray 49 (0, 0)) ∧ (0 < n9 → ∃ g, A9 = some ⟨g, 0, none⟩ ∧ y16.heap.size ≤ g ∧ g ≠ g17 ∧ MasterW wr g n9)) (fun u _ => n9 + 1 - (intOf u).toNat)
        case atStart => exact ⟨0, rfl, Nat.zero_le _, B19b.out, R17.out, MW.out⟩
        case round =>
          obtain ⟨i, rfl, hi, hb, hr, hm⟩ := hrel
          have B21 := Lib.hid hb
          by_cases hli : i < n9
          rotate_left
          · have q9 : ¬ (i : Int) < (n9 : Int) := by omega
            have w0 : IntKind.i64.wrap (((0 : Nat) : Int) + 1) = ((0 : Nat) : Int) + 1 := IntWalk.i64_in _ (by omega)
            clear hi hb hr hm hli
            go_wp2_with fail
            go_roundw
            case rel => exact ⟨1, by first | simp | (go_num), by have := HLT.out; omega, B21.out, fun h => absurd h (by decide)⟩
            case measure => have := HLT.out; first | (simp [intOf]; omega) | (simp [intOf]; done)
          have q9 : (i : Int) < (n9 : Int) := by omega
          obtain ⟨g, hA, hlo, hne, cs, hcs, hat⟩ := hm (by omega)
          obtain ⟨z, hz, -⟩ := hat i hli
          have cz : wr.cell? ⟨g, i, none⟩ = some (.int .u8 z) := by rw [cell_of_row wr g i _ _ (0, 0) hcs]; exact hz
          have fz : wr.frozen? ⟨g, i, none⟩ = false := frozen_of_row wr g i _ _ hcs
          have cm := C24.out wr hr
          obtain ⟨z2, hz2⟩ : ∃ z2, z2 = (z + 1) % 256 := ⟨_, rfl⟩
          have hw8 : IntKind.u8.wrap (z + 1) = z2 := by rw [hz2]; exact IntKind.wrap_u8 _
          have wi9 : IntKind.i64.wrap ((i : Int) + 1) = (i : Int) + 1 := IntWalk.i64_in _ (by have := EC.out; omega)
          have HA := Lib.hid hA
          have NX := Lib.hid (show Below y16.heap.size y16 (wr.setCell ⟨g, i, none⟩ (.int .u8 z2)) from hb.setCell (p := ⟨g, i, none⟩) hlo _)
          have RX := Lib.hid (show (wr.setCell ⟨g, i, none⟩ (.int .u8 z2)).heap[g17]? = some (.cells XC.toArray 49 (0, 0)) from (Below.heap_setCell _ _ _ _ (Ne.symm hne)).trans hr)
          have MX := Lib.hid (show MasterW (wr.setCell ⟨g, i, none⟩ (.int .u8 z2)) g n9 from MasterW.set ⟨cs, hcs, hat⟩ (by unfold Byte; omega))
          have HLO := Lib.hid hlo
          have HNE := Lib.hid hne
          have HI9 := Lib.hid hli
          subst hA
          clear hi hb hr hm hcs hat hz hz2 hlo hne hli HA
          go_wp2_with fail
          go_roundw
          case rel => exact ⟨i + 1, by simp, HI9.out, NX.out, RX.out, fun _ => ⟨g, rfl, HLO.out, HNE.out, MX.out⟩⟩
          case measure => have := HI9.out; simp [intOf]; omega
    have qk : (kk : Int) < 2 := by omega
    have w1 : IntKind.i64.wrap ((kk : Int) + 1) = (kk : Int) + 1 := IntWalk.i64_in _ (by omega)
    obtain ⟨pv, hcv, hnm⟩ := N4.out kk hk2
    have cv : wr.cell? ⟨gs, kk, none⟩ = some pv := (hb.cell (p := ⟨gs, kk, none⟩) GSL.out).trans hcv
    have NMr := Lib.hid (NB.out _ _ _ hnm hb)
    have HK9 := Lib.hid hk2
    have KPW := Lib.hid (fun w' (h : Below wr.heap.size wr w') => KPWW.out w' (BWW.out.trans (h.mono BWW.out.size)))
    have KSW := Lib.hid (fun w' (h : Below wr.heap.size wr w') => KSWW.out w' (BWW.out.trans (h.mono BWW.out.size)))
    have KRW := Lib.hid (fun w' (h : Below wr.heap.size wr w') => KRWW.out w' (BWW.out.trans (h.mono BWW.out.size)))
    have KQW := Lib.hid (fun w' (h : Below wr.heap.size wr w') => (HQ.out.below (BWW.out.trans (h.mono BWW.out.size)) (Nat.le_trans BWW.out.size h.size) : KeAt w' w'.heap.size q))
    have KK9 := Lib.hid (KKWW.out wr BWW.out)
    clear hb hk hk2 hcv hnm
    go_upto_region 7 with (first
      | (refine wpList_load_row rfl 41 (.tmp 2) rfl bk rfl _ _ _ _ KK9.out Try.underlying41 rfl IK.out ?_)
      | (go_at_call 13; (with_reducible refine (TH.out _).mono ?_); rintro e z5 ⟨rfl, hb⟩
         have B5 := Lib.hid hb
         clear hb)
      | (go_at_call 12; (with_reducible refine (NAD.out _ pv q (NB.out _ _ _ NMr.out B5.out) (KQW.out _ B5.out) NQ.out).mono ?_); rintro e y6 ⟨rfl, hb⟩
         have D6 := Lib.hid (show Below wr.heap.size wr y6 from B5.out.trans (hb.mono B5.out.size))
         clear hb))
    clear cv KK9
    have hzp := HZP.out
    go_upto_region 8 with (first
      | (go_at_call 19; (with_reducible refine (GEC.out _ pv 1 (NB.out _ _ _ NMr.out D6.out)).mono ?_); rintro e z7 ⟨q9, hke, hval, rfl, hb⟩
         have KZ9 := Lib.hid hke
         have VQ9 := Lib.hid hval
         have BZ7 := Lib.hid hb
         have IQ9 := Lib.hid (show (Try.prog.info? 49).map (·.size) = some q9.V.size by rw [Ke.V_size hke]; exact pk_info)
         have ZQ9 := Lib.hid (show ZV.size = q9.V.size by rw [ZSZ.out, Ke.V_size hke])
         have OQ9 := Lib.hid (show q9.V.all (·.oneCell') = true from kt_ones)
         clear hke hval hb)
      | (refine wpList_store_row rfl 49 (.tmp 9) (.tmp 44) rfl z7.heap.size q9.V rfl rfl _ _ (heap_alloc_new _ _) IQ9.out ZQ9.out OQ9.out ?_; rw [World.setRow_alloc_new]))
    clear hzp
    obtain ⟨y7, hy7⟩ : ∃ y, y = z7.alloc (.cells q9.V 49) := ⟨_, rfl⟩
    obtain ⟨g9, hg9⟩ : ∃ g, g = z7.heap.size := ⟨_, rfl⟩
    rw [← hy7]
    rw [← hg9]
    have RQ9 := Lib.hid (show y7.heap[g9]? = some (.cells q9.V 49 (0, 0)) by rw [hy7, hg9]; exact heap_alloc_new _ _)
    have BA7 := Lib.hid (show Below z7.heap.size z7 y7 by rw [hy7]; exact alloc_below _ _)
    have BY7 := Lib.hid (show Below y6.heap.size y6 y7 from BZ7.out.trans (BA7.out.mono BZ7.out.size))
    have KY9 := Lib.hid (KZ9.out.below BA7.out BA7.out.size)
    have D7 := Lib.hid (show Below wr.heap.size wr y7 from D6.out.trans (BY7.out.mono D6.out.size))
    clear hy7 hg9 KZ9 ZQ9 OQ9
    have KPr := Lib.hid (KPW.out y7 D7.out)
    have cs := KSW.out y7 D7.out
    have hzp := HZP.out
    go_upto_region 9 with (first
      | (refine wpList_load_row rfl 30 (.tmp 3) rfl bp rfl _ _ _ _ KPr.out Try.underlying30 rfl IP.out ?_)
      | (go_at_call 15; (with_reducible refine (SDC.out _ pv (NB.out _ _ _ NMr.out D7.out)).mono ?_); rintro e z8 ⟨q11, hke, hval, rfl, hb⟩
         have KZ11 := Lib.hid hke
         have VQ11 := Lib.hid hval
         have BZ8 := Lib.hid hb
         have IQ11 := Lib.hid (show (Try.prog.info? 49).map (·.size) = some q11.V.size by rw [Ke.V_size hke]; exact pk_info)
         have ZQ11 := Lib.hid (show ZV.size = q11.V.size by rw [ZSZ.out, Ke.V_size hke])
         have OQ11 := Lib.hid (show q11.V.all (·.oneCell') = true from kt_ones)
         clear hke hval hb)
      | (refine wpList_store_row rfl 49 (.tmp 11) (.tmp 52) rfl z8.heap.size q11.V rfl rfl _ _ (heap_alloc_new _ _) IQ11.out ZQ11.out OQ11.out ?_; rw [World.setRow_alloc_new]))
    clear hzp
    obtain ⟨y8, hy8⟩ : ∃ y, y = z8.alloc (.cells q11.V 49) := ⟨_, rfl⟩
    obtain ⟨g11, hg11⟩ : ∃ g, g = z8.heap.size := ⟨_, rfl⟩
    rw [← hy8]
    rw [← hg11]
    have RQ11 := Lib.hid (show y8.heap[g11]? = some (.cells q11.V 49 (0, 0)) by rw [hy8, hg11]; exact heap_alloc_new _ _)
    have BA8 := Lib.hid (show Below z8.heap.size z8 y8 by rw [hy8]; exact alloc_below _ _)
    have BY8 := Lib.hid (show Below y7.heap.size y7 y8 from BZ8.out.trans (BA8.out.mono BZ8.out.size))
    have KY11 := Lib.hid (KZ11.out.below BA8.out BA8.out.size)
    have D8 := Lib.hid (show Below wr.heap.size wr y8 from D7.out.trans (BY8.out.mono D7.out.size))
    clear hy8 hg11 KZ11 ZQ11 OQ11
    clear KPr cs
    have KPr := Lib.hid (KPW.out y8 D8.out)
    have cs := KRW.out y8 D8.out
    have hzp := HZP.out
    go_upto_region 10 with (first
      | (refine wpList_load_row rfl 30 (.tmp 3) rfl bp rfl _ _ _ _ KPr.out Try.underlying30 rfl IP.out ?_)
      | (go_at_call 17; (with_reducible refine (GTC.out _ pv (NB.out _ _ _ NMr.out D8.out)).mono ?_); rintro e z9 ⟨q13, hke, hval, rfl, hb⟩
         have KZ13 := Lib.hid hke
         have VQ13 := Lib.hid hval
         have BZ9 := Lib.hid hb
         have IQ13 := Lib.hid (show (Try.prog.info? 49).map (·.size) = some q13.V.size by rw [Ke.V_size hke]; exact pk_info)
         have ZQ13 := Lib.hid (show ZV.size = q13.V.size by rw [ZSZ.out, Ke.V_size hke])
         have OQ13 := Lib.hid (show q13.V.all (·.oneCell') = true from kt_ones)
         clear hke hval hb)
      | (refine wpList_store_row rfl 49 (.tmp 13) (.tmp 60) rfl z9.heap.size q13.V rfl rfl _ _ (heap_alloc_new _ _) IQ13.out ZQ13.out OQ13.out ?_; rw [World.setRow_alloc_new]))
    clear hzp
    obtain ⟨y9, hy9⟩ : ∃ y, y = z9.alloc (.cells q13.V 49) := ⟨_, rfl⟩
    obtain ⟨g13, hg13⟩ : ∃ g, g = z9.heap.size := ⟨_, rfl⟩
    rw [← hy9]
    rw [← hg13]
    have RQ13 := Lib.hid (show y9.heap[g13]? = some (.cells q13.V 49 (0, 0)) by rw [hy9, hg13]; exact heap_alloc_new _ _)
    have BA9 := Lib.hid (show Below z9.heap.size z9 y9 by rw [hy9]; exact alloc_below _ _)
    have BY9 := Lib.hid (show Below y8.heap.size y8 y9 from BZ9.out.trans (BA9.out.mono BZ9.out.size))
    have KY13 := Lib.hid (KZ13.out.below BA9.out BA9.out.size)
    have D9 := Lib.hid (show Below wr.heap.size wr y9 from D8.out.trans (BY9.out.mono D8.out.size))
    clear hy9 hg13 KZ13 ZQ13 OQ13
    clear KPr cs
    have KP := Lib.hid (fun w' (h : Gr y9 w') => KPW.out w' (D9.out.trans (Below.mono h D9.out.size)))
    have NMB := Lib.hid (fun w' (h : Gr y9 w') => NB.out _ _ _ NMr.out (D9.out.trans (Below.mono h D9.out.size)))
    have RQ9 := Lib.hid (fun w' (h : Gr y9 w') => (show w'.heap[g9]? = some (.cells q9.V 49 (0, 0)) from (h.block _ (by have := lt_of_row RQ9.out; have := BY8.out.size; have := BY9.out.size; omega)).trans ((BY9.out.block _ (by have := lt_of_row RQ9.out; have := BY8.out.size; omega)).trans ((BY8.out.block _ (lt_of_row RQ9.out)).trans RQ9.out))))
    have RQ11 := Lib.hid (fun w' (h : Gr y9 w') => (show w'.heap[g11]? = some (.cells q11.V 49 (0, 0)) from (h.block _ (by have := lt_of_row RQ11.out; have := BY9.out.size; omega)).trans ((BY9.out.block _ (lt_of_row RQ11.out)).trans RQ11.out)))
    have RQ13 := Lib.hid (fun w' (h : Gr y9 w') => (show w'.heap[g13]? = some (.cells q13.V 49 (0, 0)) from (h.block _ (lt_of_row RQ13.out)).trans RQ13.out))
    have KQ9 := Lib.hid (fun w' (h : Gr y9 w') => ((KY9.out.below BY8.out BY8.out.size).below BY9.out BY9.out.size).below h (Below.size h))
    have KQ11 := Lib.hid (fun w' (h : Gr y9 w') => (KY11.out.below BY9.out BY9.out.size).below h (Below.size h))
    have KQ13 := Lib.hid (fun w' (h : Gr y9 w') => KY13.out.below h (Below.size h))
    have HV3 := Lib.hid (show [q9, q11, q13].map Ke.val = [zKp, zKp, zKp] by simp [VQ9.out, VQ11.out, VQ13.out])
    clear KPW KSW KRW KQW KY9 KY11 KY13
    refine with_act fun a0 ha0 => ?_
    have hl : nbT.length = a0.tmps.size := by rw [ha0]; rfl
    have k6 : a0.tmps[6]?.getD undef = pv := by rw [ha0]; rfl
    have k3 : a0.tmps[3]?.getD undef = .pointer (some ⟨bp, 0, none⟩) := by rw [ha0]; rfl
    have k7 : a0.tmps[7]?.getD undef = .int .i64 0 := by rw [ha0]; rfl
    have k8 : a0.tmps[8]?.getD undef = .int .i64 2 := by rw [ha0]; rfl
    have k10 : a0.tmps[10]?.getD undef = .int .i64 2 := by rw [ha0]; rfl
    have k12 : a0.tmps[12]?.getD undef = .int .i64 2 := by rw [ha0]; rfl
    have k14 : a0.tmps[14]?.getD undef = .int .i64 2 := by rw [ha0]; rfl
    have k9 : a0.tmps[9]?.getD undef = .pointer (some ⟨g9, 0, none⟩) := by rw [ha0]; rfl
    have k11 : a0.tmps[11]?.getD undef = .pointer (some ⟨g11, 0, none⟩) := by rw [ha0]; rfl
    have k13 : a0.tmps[13]?.getD undef = .pointer (some ⟨g13, 0, none⟩) := by rw [ha0]; rfl
    refine wp_region_vals (by kernel_rfl) nbT (by kernel_rfl) (by kernel_rfl) hl (fun i => a0.tmps[i + 62]?.getD undef) (by rw [ha0]; rfl) (Gr y9) (nbV pv bp g9 g11 g13 CP q9 q11 q13) (show Gr _ _ from (Below.refl _ _).drew) (nbV.keep _ _ _ _ _ _ _ _ _) ⟨?_, ?_, ?_, ?_, ?_, ?_, ?_, ?_, ?_, ?_, ?_, ?_, ?_, ?_, ?_, ?_, ?_, ?_, ?_, ?_, ?_, ?_, ?_, ?_, ?_, ?_, ?_, ?_, ?_, ?_, ?_, ?_, ?_, ?_, ?_, ?_, ?_, ?_, ?_, ?_, ?_, ?_, ?_, ?_, trivial⟩ ?_
    · refine step_plain [] (by kernel_rfl) rfl fun us w' hG hV => ?_
      have o7 := (frame_old2 (us := us) (a := a0) (show (nbT[7]?).join = none from rfl)).trans k7
      generalize frame nbT a0 us = fr at *
      exact val_ok (v := .int .i64 0) (w' := w') (by go_simp) hG (Below.refl _ _) rfl
    · refine step_plain [0] (by kernel_rfl) rfl fun us w' hG hV => ?_
      have e0 : us 0 = .int .i64 0 := hV 0 (by simp)
      have v0 := (frame_at2 (us := us) hl (show (nbT[62]?).join = some 0 from rfl)).trans e0
      generalize frame nbT a0 us = fr at *
      exact val_ok (v := .bool false) (w' := w') (by go_simp) hG (Below.refl _ _) rfl
    · refine step_plain [1] (by kernel_rfl) rfl fun us w' hG hV => ?_
      have e1 : us 1 = .bool false := hV 1 (by simp)
      have v1 := (frame_at2 (us := us) hl (show (nbT[63]?).join = some 1 from rfl)).trans e1
      generalize frame nbT a0 us = fr at *
      exact val_ok (v := .bool false) (w' := w') (by go_simp) hG (Below.refl _ _) rfl
    · refine step_guard [2] (by kernel_rfl) (j := 2) (t := 64) (b := false) rfl (by simp) rfl hl rfl (fun v w h => h) fun us w' hG hV => ?_
      have o8 := (frame_old2 (us := us) (a := a0) (show (nbT[8]?).join = none from rfl)).trans k8
      generalize frame nbT a0 us = fr at *
      exact val_ok (v := .int .i64 2) (w' := w') (by go_simp) hG (Below.refl _ _) rfl
    · refine step_guard [2, 3] (by kernel_rfl) (j := 2) (t := 64) (b := false) rfl (by simp) rfl hl rfl (fun v w h => h) fun us w' hG hV => ?_
      have e3 : us 3 = .int .i64 2 := hV 3 (by simp)
      have v3 := (frame_at2 (us := us) hl (show (nbT[65]?).join = some 3 from rfl)).trans e3
      generalize frame nbT a0 us = fr at *
      exact val_ok (v := .bool false) (w' := w') (by go_simp) hG (Below.refl _ _) rfl
    · refine step_plain [2, 4] (by kernel_rfl) rfl fun us w' hG hV => ?_
      have e2 : us 2 = .bool false := hV 2 (by simp)
      have v2 := (frame_at2 (us := us) hl (show (nbT[64]?).join = some 2 from rfl)).trans e2
      have e4 : us 4 = .bool false := hV 4 (by simp)
      have v4 := (frame_at2 (us := us) hl (show (nbT[66]?).join = some 4 from rfl)).trans e4
      generalize frame nbT a0 us = fr at *
      exact val_ok (v := .bool false) (w' := w') (by go_simp) hG (Below.refl _ _) rfl
    · refine step_plain [5] (by kernel_rfl) rfl fun us w' hG hV => ?_
      have e5 : us 5 = .bool false := hV 5 (by simp)
      have v5 := (frame_at2 (us := us) hl (show (nbT[67]?).join = some 5 from rfl)).trans e5
      generalize frame nbT a0 us = fr at *
      exact val_ok (v := .bool false) (w' := w') (by go_simp) hG (Below.refl _ _) rfl
    · refine step_guard [6] (by kernel_rfl) (j := 6) (t := 68) (b := false) rfl (by simp) rfl hl rfl (fun v w h => h) fun us w' hG hV => ?_
      have o6 := (frame_old2 (us := us) (a := a0) (show (nbT[6]?).join = none from rfl)).trans k6
      generalize frame nbT a0 us = fr at *
      exact val_ok (v := pv) (w' := w') (by go_simp) hG (Below.refl _ _) rfl
    · refine step_guard [6, 7] (by kernel_rfl) (j := 6) (t := 68) (b := false) rfl (by simp) rfl hl rfl (fun v w h => h) fun us w' hG hV => ?_
      have e7 : us 7 = pv := hV 7 (by simp)
      have v7 := (frame_at2 (us := us) hl (show (nbT[69]?).join = some 7 from rfl)).trans e7
      generalize frame nbT a0 us = fr at *
      exact call_ok (f := 10) (args := #[pv, .int .i64 1]) (by go_simp) ((DRC.out w' pv 1 (NMB.out w' hG)).mono fun e w'' h => ⟨_, h.1, hG.below h.2, h.2, rfl⟩)
    · refine step_guard [6, 8] (by kernel_rfl) (j := 6) (t := 68) (b := false) rfl (by simp) rfl hl rfl (fun v w h => h) fun us w' hG hV => ?_
      have e8 : us 8 = .int .i64 2 := hV 8 (by simp)
      have v8 := (frame_at2 (us := us) hl (show (nbT[70]?).join = some 8 from rfl)).trans e8
      generalize frame nbT a0 us = fr at *
      exact val_ok (v := .bool false) (w' := w') (by go_simp) hG (Below.refl _ _) rfl
    · refine step_plain [6, 9] (by kernel_rfl) rfl fun us w' hG hV => ?_
      have e6 : us 6 = .bool false := hV 6 (by simp)
      have v6 := (frame_at2 (us := us) hl (show (nbT[68]?).join = some 6 from rfl)).trans e6
      have e9 : us 9 = .bool false := hV 9 (by simp)
      have v9 := (frame_at2 (us := us) hl (show (nbT[71]?).join = some 9 from rfl)).trans e9
      generalize frame nbT a0 us = fr at *
      exact val_ok (v := .bool false) (w' := w') (by go_simp) hG (Below.refl _ _) rfl
    · refine step_plain [10] (by kernel_rfl) rfl fun us w' hG hV => ?_
      have e10 : us 10 = .bool false := hV 10 (by simp)
      have v10 := (frame_at2 (us := us) hl (show (nbT[72]?).join = some 10 from rfl)).trans e10
      generalize frame nbT a0 us = fr at *
      exact val_ok (v := .bool false) (w' := w') (by go_simp) hG (Below.refl _ _) rfl
    · refine step_guard [11] (by kernel_rfl) (j := 11) (t := 73) (b := false) rfl (by simp) rfl hl rfl (fun v w h => h) fun us w' hG hV => ?_
      have o9 := (frame_old2 (us := us) (a := a0) (show (nbT[9]?).join = none from rfl)).trans k9
      have hg1 := (RQ9.out w' hG)
      generalize frame nbT a0 us = fr at *
      exact load_ok 49 9 rfl (g9) o9 _ _ (0, 0) _ hg1 Try.underlying49 rfl IQ9.out hG rfl
    · refine step_guard [11] (by kernel_rfl) (j := 11) (t := 73) (b := false) rfl (by simp) rfl hl rfl (fun v w h => h) fun us w' hG hV => ?_
      have o11 := (frame_old2 (us := us) (a := a0) (show (nbT[11]?).join = none from rfl)).trans k11
      have hg1 := (RQ11.out w' hG)
      generalize frame nbT a0 us = fr at *
      exact load_ok 49 11 rfl (g11) o11 _ _ (0, 0) _ hg1 Try.underlying49 rfl IQ11.out hG rfl
    · refine step_guard [11] (by kernel_rfl) (j := 11) (t := 73) (b := false) rfl (by simp) rfl hl rfl (fun v w h => h) fun us w' hG hV => ?_
      have o13 := (frame_old2 (us := us) (a := a0) (show (nbT[13]?).join = none from rfl)).trans k13
      have hg1 := (RQ13.out w' hG)
      generalize frame nbT a0 us = fr at *
      exact load_ok 49 13 rfl (g13) o13 _ _ (0, 0) _ hg1 Try.underlying49 rfl IQ13.out hG rfl
    · refine step_guard [11, 12, 13, 14] (by kernel_rfl) (j := 11) (t := 73) (b := false) rfl (by simp) rfl hl rfl (fun v w h => h) fun us w' hG hV => ?_
      have e12 : us 12 = .agg (Ke.V q9) := hV 12 (by simp)
      have v12 := (frame_at2 (us := us) hl (show (nbT[74]?).join = some 12 from rfl)).trans e12
      have e13 : us 13 = .agg (Ke.V q11) := hV 13 (by simp)
      have v13 := (frame_at2 (us := us) hl (show (nbT[75]?).join = some 13 from rfl)).trans e13
      have e14 : us 14 = .agg (Ke.V q13) := hV 14 (by simp)
      have v14 := (frame_at2 (us := us) hl (show (nbT[76]?).join = some 14 from rfl)).trans e14
      generalize frame nbT a0 us = fr at *
      exact lit3_J (R := fun v w'' => Gr y9 w'' ∧ Below w'.heap.size w' w'' ∧ nbV pv bp g9 g11 g13 CP q9 q11 q13 15 v w'') 74 75 76 rfl Try.underlying61 pk_infoK q9 q11 q13 v12 v13 v14 (Ke.L_len (KQ9.out _ hG)) (Ke.L_len (KQ11.out _ hG)) (Ke.L_len (KQ13.out _ hG)) ⟨hG.below (alloc_below _ _), alloc_below _ _, _, 3, 3, [q9, q11, q13], rfl, lit_ks (heap_alloc_new _ _) (KQ9.out _ (hG.below (alloc_below _ _))) (KQ11.out _ (hG.below (alloc_below _ _))) (KQ13.out _ (hG.below (alloc_below _ _))) HV3.out⟩
    · refine step_guard [11, 15] (by kernel_rfl) (j := 11) (t := 73) (b := false) rfl (by simp) rfl hl rfl (fun v w h => h) fun us w' hG hV => ?_
      obtain ⟨A15, n15, c15, es15, e15, P15⟩ := (show ∃ A' n' c' es', us 15 = .slice A' n' c' ∧ KsP w' A' n' c' es' [zKp, zKp, zKp] from hV 15 (by simp))
      have v15 := (frame_at2 (us := us) hl (show (nbT[77]?).join = some 15 from rfl)).trans e15
      generalize frame nbT a0 us = fr at *
      exact call_ok (f := 22) (args := #[.slice A15 n15 c15]) (by go_simp) ((ours_ks P15).mono fun e w'' ⟨A', n', c', h1, h2, h3⟩ => ⟨_, h1, hG.below h3, h3, A', n', c', es15, rfl, h2⟩)
    · refine step_guard [11] (by kernel_rfl) (j := 11) (t := 73) (b := false) rfl (by simp) rfl hl rfl (fun v w h => h) fun us w' hG hV => ?_
      generalize frame nbT a0 us = fr at *
      exact make3_J (R := fun v w'' => Gr y9 w'' ∧ Below w'.heap.size w' w'' ∧ nbV pv bp g9 g11 g13 CP q9 q11 q13 17 v w'') rfl ⟨hG.below (alloc_below _ _), alloc_below _ _, _, 3, 3, [zKe, zKe, zKe], rfl, lit_ks (heap_alloc_new _ _) (zKe_at _ _) (zKe_at _ _) (zKe_at _ _) rfl⟩
    · refine step_guard [11, 16, 17] (by kernel_rfl) (j := 11) (t := 73) (b := false) rfl (by simp) rfl hl rfl (fun v w h => h) fun us w' hG hV => ?_
      obtain ⟨A16, n16, c16, es16, e16, P16⟩ := (show ∃ A' n' c' es', us 16 = .slice A' n' c' ∧ KsP w' A' n' c' es' [zKp, zKp, zKp] from hV 16 (by simp))
      have v16 := (frame_at2 (us := us) hl (show (nbT[78]?).join = some 16 from rfl)).trans e16
      obtain ⟨A17, n17, c17, es17, e17, P17⟩ := (show ∃ A' n' c' es', us 17 = .slice A' n' c' ∧ KsP w' A' n' c' es' [zKp, zKp, zKp] from hV 17 (by simp))
      have v17 := (frame_at2 (us := us) hl (show (nbT[79]?).join = some 17 from rfl)).trans e17
      generalize frame nbT a0 us = fr at *
      exact call_ok (f := 21) (args := #[.slice A16 n16 c16, .slice A17 n17 c17]) (by go_simp) ((same_ks P16 P17).mono fun e w'' h => ⟨_, h.1, hG.below h.2, h.2, rfl⟩)
    · refine step_guard [11, 18] (by kernel_rfl) (j := 11) (t := 73) (b := false) rfl (by simp) rfl hl rfl (fun v w h => h) fun us w' hG hV => ?_
      have e18 : us 18 = .bool true := hV 18 (by simp)
      have v18 := (frame_at2 (us := us) hl (show (nbT[80]?).join = some 18 from rfl)).trans e18
      generalize frame nbT a0 us = fr at *
      exact val_ok (v := .bool false) (w' := w') (by go_simp) hG (Below.refl _ _) rfl
    · refine step_plain [11, 19] (by kernel_rfl) rfl fun us w' hG hV => ?_
      have e11 : us 11 = .bool false := hV 11 (by simp)
      have v11 := (frame_at2 (us := us) hl (show (nbT[73]?).join = some 11 from rfl)).trans e11
      have e19 : us 19 = .bool false := hV 19 (by simp)
      have v19 := (frame_at2 (us := us) hl (show (nbT[81]?).join = some 19 from rfl)).trans e19
      generalize frame nbT a0 us = fr at *
      exact val_ok (v := .bool false) (w' := w') (by go_simp) hG (Below.refl _ _) rfl
    · refine step_plain [20] (by kernel_rfl) rfl fun us w' hG hV => ?_
      have e20 : us 20 = .bool false := hV 20 (by simp)
      have v20 := (frame_at2 (us := us) hl (show (nbT[82]?).join = some 20 from rfl)).trans e20
      generalize frame nbT a0 us = fr at *
      exact val_ok (v := .bool false) (w' := w') (by go_simp) hG (Below.refl _ _) rfl
    · refine step_guard [21] (by kernel_rfl) (j := 21) (t := 83) (b := false) rfl (by simp) rfl hl rfl (fun v w h => h) fun us w' hG hV => ?_
      have o10 := (frame_old2 (us := us) (a := a0) (show (nbT[10]?).join = none from rfl)).trans k10
      generalize frame nbT a0 us = fr at *
      exact val_ok (v := .int .i64 2) (w' := w') (by go_simp) hG (Below.refl _ _) rfl
    · refine step_guard [21, 22] (by kernel_rfl) (j := 21) (t := 83) (b := false) rfl (by simp) rfl hl rfl (fun v w h => h) fun us w' hG hV => ?_
      have e22 : us 22 = .int .i64 2 := hV 22 (by simp)
      have v22 := (frame_at2 (us := us) hl (show (nbT[84]?).join = some 22 from rfl)).trans e22
      generalize frame nbT a0 us = fr at *
      exact val_ok (v := .bool false) (w' := w') (by go_simp) hG (Below.refl _ _) rfl
    · refine step_plain [21, 23] (by kernel_rfl) rfl fun us w' hG hV => ?_
      have e21 : us 21 = .bool false := hV 21 (by simp)
      have v21 := (frame_at2 (us := us) hl (show (nbT[83]?).join = some 21 from rfl)).trans e21
      have e23 : us 23 = .bool false := hV 23 (by simp)
      have v23 := (frame_at2 (us := us) hl (show (nbT[85]?).join = some 23 from rfl)).trans e23
      generalize frame nbT a0 us = fr at *
      exact val_ok (v := .bool false) (w' := w') (by go_simp) hG (Below.refl _ _) rfl
    · refine step_plain [24] (by kernel_rfl) rfl fun us w' hG hV => ?_
      have e24 : us 24 = .bool false := hV 24 (by simp)
      have v24 := (frame_at2 (us := us) hl (show (nbT[86]?).join = some 24 from rfl)).trans e24
      generalize frame nbT a0 us = fr at *
      exact val_ok (v := .bool false) (w' := w') (by go_simp) hG (Below.refl _ _) rfl
    · refine step_guard [25] (by kernel_rfl) (j := 25) (t := 87) (b := false) rfl (by simp) rfl hl rfl (fun v w h => h) fun us w' hG hV => ?_
      have o12 := (frame_old2 (us := us) (a := a0) (show (nbT[12]?).join = none from rfl)).trans k12
      generalize frame nbT a0 us = fr at *
      exact val_ok (v := .int .i64 2) (w' := w') (by go_simp) hG (Below.refl _ _) rfl
    · refine step_guard [25, 26] (by kernel_rfl) (j := 25) (t := 87) (b := false) rfl (by simp) rfl hl rfl (fun v w h => h) fun us w' hG hV => ?_
      have e26 : us 26 = .int .i64 2 := hV 26 (by simp)
      have v26 := (frame_at2 (us := us) hl (show (nbT[88]?).join = some 26 from rfl)).trans e26
      generalize frame nbT a0 us = fr at *
      exact val_ok (v := .bool false) (w' := w') (by go_simp) hG (Below.refl _ _) rfl
    · refine step_plain [25, 27] (by kernel_rfl) rfl fun us w' hG hV => ?_
      have e25 : us 25 = .bool false := hV 25 (by simp)
      have v25 := (frame_at2 (us := us) hl (show (nbT[87]?).join = some 25 from rfl)).trans e25
      have e27 : us 27 = .bool false := hV 27 (by simp)
      have v27 := (frame_at2 (us := us) hl (show (nbT[89]?).join = some 27 from rfl)).trans e27
      generalize frame nbT a0 us = fr at *
      exact val_ok (v := .bool false) (w' := w') (by go_simp) hG (Below.refl _ _) rfl
    · refine step_plain [28] (by kernel_rfl) rfl fun us w' hG hV => ?_
      have e28 : us 28 = .bool false := hV 28 (by simp)
      have v28 := (frame_at2 (us := us) hl (show (nbT[90]?).join = some 28 from rfl)).trans e28
      generalize frame nbT a0 us = fr at *
      exact val_ok (v := .bool false) (w' := w') (by go_simp) hG (Below.refl _ _) rfl
    · refine step_guard [29] (by kernel_rfl) (j := 29) (t := 91) (b := false) rfl (by simp) rfl hl rfl (fun v w h => h) fun us w' hG hV => ?_
      have o14 := (frame_old2 (us := us) (a := a0) (show (nbT[14]?).join = none from rfl)).trans k14
      generalize frame nbT a0 us = fr at *
      exact val_ok (v := .int .i64 2) (w' := w') (by go_simp) hG (Below.refl _ _) rfl
    · refine step_guard [29, 30] (by kernel_rfl) (j := 29) (t := 91) (b := false) rfl (by simp) rfl hl rfl (fun v w h => h) fun us w' hG hV => ?_
      have e30 : us 30 = .int .i64 2 := hV 30 (by simp)
      have v30 := (frame_at2 (us := us) hl (show (nbT[92]?).join = some 30 from rfl)).trans e30
      generalize frame nbT a0 us = fr at *
      exact val_ok (v := .bool false) (w' := w') (by go_simp) hG (Below.refl _ _) rfl
    · refine step_plain [29, 31] (by kernel_rfl) rfl fun us w' hG hV => ?_
      have e29 : us 29 = .bool false := hV 29 (by simp)
      have v29 := (frame_at2 (us := us) hl (show (nbT[91]?).join = some 29 from rfl)).trans e29
      have e31 : us 31 = .bool false := hV 31 (by simp)
      have v31 := (frame_at2 (us := us) hl (show (nbT[93]?).join = some 31 from rfl)).trans e31
      generalize frame nbT a0 us = fr at *
      exact val_ok (v := .bool false) (w' := w') (by go_simp) hG (Below.refl _ _) rfl
    · refine step_plain [32] (by kernel_rfl) rfl fun us w' hG hV => ?_
      have e32 : us 32 = .bool false := hV 32 (by simp)
      have v32 := (frame_at2 (us := us) hl (show (nbT[94]?).join = some 32 from rfl)).trans e32
      generalize frame nbT a0 us = fr at *
      exact val_ok (v := .bool false) (w' := w') (by go_simp) hG (Below.refl _ _) rfl
    · refine step_guard [33] (by kernel_rfl) (j := 33) (t := 95) (b := false) rfl (by simp) rfl hl rfl (fun v w h => h) fun us w' hG hV => ?_
      have o6 := (frame_old2 (us := us) (a := a0) (show (nbT[6]?).join = none from rfl)).trans k6
      generalize frame nbT a0 us = fr at *
      exact val_ok (v := pv) (w' := w') (by go_simp) hG (Below.refl _ _) rfl
    · refine step_guard [33, 34] (by kernel_rfl) (j := 33) (t := 95) (b := false) rfl (by simp) rfl hl rfl (fun v w h => h) fun us w' hG hV => ?_
      have e34 : us 34 = pv := hV 34 (by simp)
      have v34 := (frame_at2 (us := us) hl (show (nbT[96]?).join = some 34 from rfl)).trans e34
      generalize frame nbT a0 us = fr at *
      exact call_ok (f := 23) (args := #[pv]) (by go_simp) ((ALC.out w' pv (NMB.out w' hG)).mono fun e w'' ⟨A', c', h1, h2⟩ => ⟨_, h1, hG.below h2, h2, A', c', rfl, trivial⟩)
    · refine step_guard [33, 35] (by kernel_rfl) (j := 33) (t := 95) (b := false) rfl (by simp) rfl hl rfl (fun v w h => h) fun us w' hG hV => ?_
      obtain ⟨A35, c35, e35, -⟩ := (show ∃ A' c', us 35 = .slice A' 0 c' ∧ True from hV 35 (by simp))
      have v35 := (frame_at2 (us := us) hl (show (nbT[97]?).join = some 35 from rfl)).trans e35
      generalize frame nbT a0 us = fr at *
      exact val_ok (v := .int .i64 0) (w' := w') (by go_simp) hG (Below.refl _ _) rfl
    · refine step_guard [33] (by kernel_rfl) (j := 33) (t := 95) (b := false) rfl (by simp) rfl hl rfl (fun v w h => h) fun us w' hG hV => ?_
      have o6 := (frame_old2 (us := us) (a := a0) (show (nbT[6]?).join = none from rfl)).trans k6
      generalize frame nbT a0 us = fr at *
      exact val_ok (v := pv) (w' := w') (by go_simp) hG (Below.refl _ _) rfl
    · refine step_guard [33] (by kernel_rfl) (j := 33) (t := 95) (b := false) rfl (by simp) rfl hl rfl (fun v w h => h) fun us w' hG hV => ?_
      have o3 := (frame_old2 (us := us) (a := a0) (show (nbT[3]?).join = none from rfl)).trans k3
      have hg1 := (KP.out w' hG)
      generalize frame nbT a0 us = fr at *
      exact load_ok 30 3 rfl (bp) o3 _ _ (0, 0) _ hg1 Try.underlying30 rfl IP.out hG rfl
    · refine step_guard [33, 37, 38] (by kernel_rfl) (j := 33) (t := 95) (b := false) rfl (by simp) rfl hl rfl (fun v w h => h) fun us w' hG hV => ?_
      have e37 : us 37 = pv := hV 37 (by simp)
      have v37 := (frame_at2 (us := us) hl (show (nbT[99]?).join = some 37 from rfl)).trans e37
      have e38 : us 38 = .agg CP := hV 38 (by simp)
      have v38 := (frame_at2 (us := us) hl (show (nbT[100]?).join = some 38 from rfl)).trans e38
      generalize frame nbT a0 us = fr at *
      exact call_ok (f := 24) (args := #[pv, .agg CP]) (by go_simp) ((FOC.out w' pv (NMB.out w' hG)).mono fun e w'' ⟨A', c', h1, h2⟩ => ⟨_, h1, hG.below h2, h2, A', c', rfl, trivial⟩)
    · refine step_guard [33, 39] (by kernel_rfl) (j := 33) (t := 95) (b := false) rfl (by simp) rfl hl rfl (fun v w h => h) fun us w' hG hV => ?_
      obtain ⟨A39, c39, e39, -⟩ := (show ∃ A' c', us 39 = .slice A' 0 c' ∧ True from hV 39 (by simp))
      have v39 := (frame_at2 (us := us) hl (show (nbT[101]?).join = some 39 from rfl)).trans e39
      generalize frame nbT a0 us = fr at *
      exact val_ok (v := .int .i64 0) (w' := w') (by go_simp) hG (Below.refl _ _) rfl
    · refine step_guard [33, 36, 40] (by kernel_rfl) (j := 33) (t := 95) (b := false) rfl (by simp) rfl hl rfl (fun v w h => h) fun us w' hG hV => ?_
      have e36 : us 36 = .int .i64 0 := hV 36 (by simp)
      have v36 := (frame_at2 (us := us) hl (show (nbT[98]?).join = some 36 from rfl)).trans e36
      have e40 : us 40 = .int .i64 0 := hV 40 (by simp)
      have v40 := (frame_at2 (us := us) hl (show (nbT[102]?).join = some 40 from rfl)).trans e40
      have h0 : IntKind.i64.wrap 0 = 0 := IntWalk.i64_in _ (by omega)
      generalize frame nbT a0 us = fr at *
      exact val_ok (v := .int .i64 0) (w' := w') (by go_simp) hG (Below.refl _ _) rfl
    · refine step_guard [33, 41] (by kernel_rfl) (j := 33) (t := 95) (b := false) rfl (by simp) rfl hl rfl (fun v w h => h) fun us w' hG hV => ?_
      have e41 : us 41 = .int .i64 0 := hV 41 (by simp)
      have v41 := (frame_at2 (us := us) hl (show (nbT[103]?).join = some 41 from rfl)).trans e41
      generalize frame nbT a0 us = fr at *
      exact val_ok (v := .bool false) (w' := w') (by go_simp) hG (Below.refl _ _) rfl
    · refine step_plain [33, 42] (by kernel_rfl) rfl fun us w' hG hV => ?_
      have e33 : us 33 = .bool false := hV 33 (by simp)
      have v33 := (frame_at2 (us := us) hl (show (nbT[95]?).join = some 33 from rfl)).trans e33
      have e42 : us 42 = .bool false := hV 42 (by simp)
      have v42 := (frame_at2 (us := us) hl (show (nbT[104]?).join = some 42 from rfl)).trans e42
      generalize frame nbT a0 us = fr at *
      exact val_ok (v := .bool false) (w' := w') (by go_simp) hG (Below.refl _ _) rfl
    · intro us yz hG hV
      have e43 : us 43 = .bool false := hV 43 (by decide)
      subst ha0
      simp only [frame, nbT, fill]
      rw [e43]
      have HG := Lib.hid (show Below y9.heap.size y9 yz from hG)
      clear hV hl hG e43
      generalize us 0 = u_0
      generalize us 1 = u_1
      generalize us 2 = u_2
      generalize us 3 = u_3
      generalize us 4 = u_4
      generalize us 5 = u_5
      generalize us 6 = u_6
      generalize us 7 = u_7
      generalize us 8 = u_8
      generalize us 9 = u_9
      generalize us 10 = u_10
      generalize us 11 = u_11
      generalize us 12 = u_12
      generalize us 13 = u_13
      generalize us 14 = u_14
      generalize us 15 = u_15
      generalize us 16 = u_16
      generalize us 17 = u_17
      generalize us 18 = u_18
      generalize us 19 = u_19
      generalize us 20 = u_20
      generalize us 21 = u_21
      generalize us 22 = u_22
      generalize us 23 = u_23
      generalize us 24 = u_24
      generalize us 25 = u_25
      generalize us 26 = u_26
      generalize us 27 = u_27
      generalize us 28 = u_28
      generalize us 29 = u_29
      generalize us 30 = u_30
      generalize us 31 = u_31
      generalize us 32 = u_32
      generalize us 33 = u_33
      generalize us 34 = u_34
      generalize us 35 = u_35
      generalize us 36 = u_36
      generalize us 37 = u_37
      generalize us 38 = u_38
      generalize us 39 = u_39
      generalize us 40 = u_40
      generalize us 41 = u_41
      generalize us 42 = u_42
      go_wp2_with fail
      go_roundw
      case rel => exact ⟨kk + 1, by simp, by have := HK9.out; omega, BW.out.trans ((D9.out.trans (HG.out.mono D9.out.size)).mono BW.out.size)⟩
      case measure => have := HK9.out; simp [intOf]; omega
end Go.Proofs.Ytflfkhcbkhdahaa.mkC
