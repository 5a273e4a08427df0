/-
  1 texts of a proof, joined.
-/
import Derived.Test.YtflfkhcbkhdahaaMg17

/-
  Add of the document's ring.
-/
namespace Go.Proofs.Ytflfkhcbkhdahaa.mkC
open Go.ChangeShapes Go.WideShapes Go.ChangeAt Go.RowKit
open Go.Proofs.Ytflfkhcbkhdahaa.memC Go.Proofs.Ytflfkhcbkhdahaa.genC Go.Proofs.Ytflfkhcbkhdahaa.butC Go.Proofs.Ytflfkhcbkhdahaa.freeC Go.Proofs.Ytflfkhcbkhdahaa.adC Go.Proofs.Ytflfkhcbkhdahaa.rtC
set_option linter.unusedVariables false
section
variable {P : Program} {L : List Oper} {Q : Exit → Act → World → Prop} {o : Oper} {a : Act} {tab : List (Option Nat)} {G : World → Prop} {V : Nat → Value → World → Prop} {i : Nat}
theorem yield_undefI {L : List Oper} {tab : List (Option Nat)} {a : Act} {us : Nat → Value} {j t : Nat} (hl : tab.length = a.tmps.size) (hj : (L[j]?).bind (·.dst) = some t) (ht : (tab[t]?).join = some j) (hv : us j = undef) :
    yielded L.toArray (frame tab a us).tmps j = none := by
  have h := frame_get (us := us) hl ht
  have h2 : (L.toArray[j]?).bind (·.dst) = some t := by rw [List.getElem?_toArray]; exact hj
  unfold yielded
  rw [h2]
  simp only [Option.bind_some, h, hv]
  rfl
/-- an operation that is not wanted: its guard says otherwise, or was itself not wanted -/
theorem step_skip (need : List Nat) (hn : needs o need = true) {j t : Nat} {b : Bool} (hg : o.guard = some (j, b)) (hj : j ∈ need) (hL : (L[j]?).bind (·.dst) = some t) (hl : tab.length = a.tmps.size) (ht : (tab[t]?).join = some j)
    (hv : ∀ v w, V j v w → v = .bool (!b) ∨ v = undef) (hu : ∀ w, V i undef w) : Step P L Q tab a G V i o := by
  intro m us w hG hV hd
  rcases hv _ _ (hV j (need_ok hn hd j hj)) with h | h
  · have hy := yield_at (L := L) (us := us) hl hL ht h
    rw [if_neg (by simp [Region.wanted, hg, hy])]
    exact hu w
  · have hy := yield_undefI (L := L) (us := us) hl hL ht h
    rw [if_neg (by simp [Region.wanted, hg, hy])]
    exact hu w
end
/-- two numbers, and the ring behind the call -/
def AddR (w : World) (r M : Nat) (P : Nat → Prop) (nn er : Int) (rg : Rg) (e : Ending) (w' : World) : Prop := e = .returned (.tuple #[.int .i64 nn, .int .i64 er]) ∧ RgF w' r M rg P ∧ But r w w'
/-- a slice of one key tuple, in a region that draws its order -/
theorem litK_J {R : Value → World → Prop} {fr : Act} {o : Oper} {w : World} {Q : Exit → Act → World → Prop} (s : Tmp) (ho : o.op = .buildSlice 33 1 #[(0, .tmp s)]) (C : Array Value) (hx : fr.tmps[s]?.getD undef = .agg C) (hC : C.size = 26)
    (h : R (.slice (some ⟨w.heap.size, 0, none⟩) 1 1) (w.alloc (.cells C 41))) : o.wp Try.prog fr w (fun a' w' => ∃ v, a' = fr.put o.dst v ∧ R v w') Q := by
  obtain ⟨ie, hie, he⟩ := Option.map_eq_some_iff.1 rk_infoK
  obtain ⟨hz, he2⟩ := Prod.mk.inj he
  obtain ⟨hs, hb⟩ := Prod.mk.inj he2
  refine wp_buildSlice 33 41 1 _ ho C ie _ Try.underlying33 hie hz (by rw [hs]; decide) (by rw [hs]; decide) ?_ ⟨_, rfl, h⟩
  rw [hs]
  have := Great.fill_whole (s := 26) (by decide) [Value.agg C] ((Array.range (1 * 26)).map ((Value.agg (ktV zKt none 0 0)).cells[· % (Value.agg (ktV zKt none 0 0)).cells.size]!)) (by simpa [Value.cells] using hC) (by simp)
  have hx' := ev_tmpM hx
  simpa [hx', Value.cells] using this
/-- the same key tuple with another number -/
theorem kt_num {k : Kt} {A : Option Addr} {n c : Nat} (v : Int) : (ktV k A n c).setIfInBounds 0 (.int .i64 v) = ktV { k with n := v } A n c := by
  unfold ktV ktL
  simp [ktT]
theorem kt_numOk {k : Kt} {v : Int} (h : k.Ok) (hv : -9223372036854775808 ≤ v ∧ v ≤ 9223372036854775807) : ({ k with n := v } : Kt).Ok := ⟨h.la, h.ya, hv, h.len, h.lp, h.rp, h.si, h.ri, h.alg⟩
theorem addErr_eq (r : Rg) (k : Kp) : addErr r k = if mayB k.1 k.2.length then (if r.l.any (fun x => clash x k) then 7 else if 32 ≤ r.l.length ∨ 2147483647 ≤ r.last then 5 else 0) else 1 := rfl
theorem clash_of {e : Ke} {w : World} {M : Nat} (h : KeAt w M e) {k : Kt} {ms : List Int} {n : Nat} (hn : ms.length = n) : clash e.val (k, ms) = (meetB e.k e.n k n && (decide (e.k.si = k.si) || decide (e.k.ri = k.ri))) := by
  unfold clash Ke.val
  rw [show (e.k, e.m).2.length = e.n from h.len, show (k, ms).2.length = n from hn]
theorem any_yes {es : List Ke} {k : Kp} {l : List Kp} (hv : es.map Ke.val = l) {i : Nat} {e : Ke} (he : es[i]? = some e) (hc : clash e.val k = true) : l.any (fun x => clash x k) = true := by
  rw [← hv]
  exact List.any_eq_true.2 ⟨e.val, List.mem_map.2 ⟨e, List.mem_of_getElem? he, rfl⟩, hc⟩
theorem any_no {es : List Ke} {k : Kp} {l : List Kp} (hv : es.map Ke.val = l) (h : ∀ x ∈ es, clash x.val k = false) : l.any (fun x => clash x k) = false := by
  rw [← hv]
  exact List.any_eq_false.2 fun x hx => by
    obtain ⟨e, he, rfl⟩ := List.mem_map.1 hx
    rw [h e he]; decide
def aaV (r b bx O m c kx : Nat) (CX : List Value) (CK : Array Value) (xs ks xr kr : Int) : Nat → Value → World → Prop
  | 0, v, _ => v = .pointer (some ⟨r, 0, none⟩)
  | 1, v, _ => v = .pointer (some ⟨r, 0, none⟩)
  | 2, v, _ => v = .pointer (some ⟨r, 1, none⟩)
  | 3, v, _ => v = .slice (some ⟨b, O, none⟩) m c
  | 4, v, _ => v = .int .i64 kx
  | 5, v, _ => v = .pointer (some ⟨b, O + kx * 26, none⟩)
  | 6, v, _ => v = .agg CX.toArray
  | 7, v, _ => v = .agg CK
  | 8, v, _ => v = .bool false
  | 9, v, _ => v = .bool false
  | 10, v, _ => v = undef
  | 11, v, _ => v = undef
  | 12, v, _ => v = undef
  | 13, v, _ => v = undef
  | 14, v, _ => v = undef
  | 15, v, _ => v = undef
  | 16, v, _ => v = undef
  | 17, v, _ => v = undef
  | 18, v, _ => v = undef
  | 19, v, _ => v = undef
  | 20, v, _ => v = undef
  | 21, v, _ => v = undef
  | 22, v, _ => v = undef
  | 23, v, _ => v = undef
  | 24, v, _ => v = undef
  | 25, v, _ => v = undef
  | 26, v, _ => v = undef
  | 27, v, _ => v = undef
  | 28, v, _ => v = undef
  | 29, v, _ => v = undef
  | 30, v, _ => v = undef
  | 31, v, _ => v = undef
  | 32, v, _ => v = undef
  | 33, v, _ => v = undef
  | 34, v, _ => v = .bool false
  | _, _, _ => True
theorem aaV.keep (r b bx O m c kx : Nat) (CX : List Value) (CK : Array Value) (xs ks xr kr : Int) (i : Nat) (v : Value) (w w' : World) (hb : Below w.heap.size w w') (h : aaV r b bx O m c kx CX CK xs ks xr kr i v w) : aaV r b bx O m c kx CX CK xs ks xr kr i v w' := by
  unfold aaV at h ⊢
  split at h <;> exact h
def aaT : List (Option Nat) := [none, none, none, none, none, none, none, none, none, none, none, none, none, none, none, none, none, none, none, some 0, some 1, some 2, some 3, some 4, some 5, some 6, some 7, some 8, some 9, some 10, some 11, some 12, some 13, some 14, some 15, some 16, some 17, some 18, some 19, some 20, some 21, some 22, some 23, some 24, some 25, some 26, some 27, some 28, some 29, some 30, some 31, some 32, some 33, some 34, none, none, none, none, none, none, none, none, none, none, none, none, none, none, none, none, none, none, none, none, none, none, none, none, none, none, none, none, none, none, none, none, none, none, none, none, none, none]
def abV (r b bx O m c kx : Nat) (CX : List Value) (CK : Array Value) (xs ks xr kr : Int) : Nat → Value → World → Prop
  | 0, v, _ => v = .pointer (some ⟨r, 0, none⟩)
  | 1, v, _ => v = .pointer (some ⟨r, 0, none⟩)
  | 2, v, _ => v = .pointer (some ⟨r, 1, none⟩)
  | 3, v, _ => v = .slice (some ⟨b, O, none⟩) m c
  | 4, v, _ => v = .int .i64 kx
  | 5, v, _ => v = .pointer (some ⟨b, O + kx * 26, none⟩)
  | 6, v, _ => v = .agg CX.toArray
  | 7, v, _ => v = .agg CK
  | 8, v, _ => v = .bool true
  | 9, v, _ => v = .bool true
  | 10, v, _ => v = .pointer (some ⟨r, 0, none⟩)
  | 11, v, _ => v = .pointer (some ⟨r, 0, none⟩)
  | 12, v, _ => v = .pointer (some ⟨r, 1, none⟩)
  | 13, v, _ => v = .slice (some ⟨b, O, none⟩) m c
  | 14, v, _ => v = .int .i64 kx
  | 15, v, _ => v = .pointer (some ⟨b, O + kx * 26, none⟩)
  | 16, v, _ => v = .pointer (some ⟨b, O + kx * 26 + 21, none⟩)
  | 17, v, _ => v = .int .u8 xs
  | 18, v, _ => v = .pointer (some ⟨bx, 21, none⟩)
  | 19, v, _ => v = .int .u8 ks
  | 20, v, _ => v = .bool true
  | 21, v, _ => v = .bool true
  | 22, v, _ => v = undef
  | 23, v, _ => v = undef
  | 24, v, _ => v = undef
  | 25, v, _ => v = undef
  | 26, v, _ => v = undef
  | 27, v, _ => v = undef
  | 28, v, _ => v = undef
  | 29, v, _ => v = undef
  | 30, v, _ => v = undef
  | 31, v, _ => v = undef
  | 32, v, _ => v = undef
  | 33, v, _ => v = .bool true
  | 34, v, _ => v = .bool true
  | _, _, _ => True
theorem abV.keep (r b bx O m c kx : Nat) (CX : List Value) (CK : Array Value) (xs ks xr kr : Int) (i : Nat) (v : Value) (w w' : World) (hb : Below w.heap.size w w') (h : abV r b bx O m c kx CX CK xs ks xr kr i v w) : abV r b bx O m c kx CX CK xs ks xr kr i v w' := by
  unfold abV at h ⊢
  split at h <;> exact h
def abT : List (Option Nat) := [none, none, none, none, none, none, none, none, none, none, none, none, none, none, none, none, none, none, none, some 0, some 1, some 2, some 3, some 4, some 5, some 6, some 7, some 8, some 9, some 10, some 11, some 12, some 13, some 14, some 15, some 16, some 17, some 18, some 19, some 20, some 21, some 22, some 23, some 24, some 25, some 26, some 27, some 28, some 29, some 30, some 31, some 32, some 33, some 34, none, none, none, none, none, none, none, none, none, none, none, none, none, none, none, none, none, none, none, none, none, none, none, none, none, none, none, none, none, none, none, none, none, none, none, none, none, none]
def acV (r b bx O m c kx : Nat) (CX : List Value) (CK : Array Value) (xs ks xr kr : Int) : Nat → Value → World → Prop
  | 0, v, _ => v = .pointer (some ⟨r, 0, none⟩)
  | 1, v, _ => v = .pointer (some ⟨r, 0, none⟩)
  | 2, v, _ => v = .pointer (some ⟨r, 1, none⟩)
  | 3, v, _ => v = .slice (some ⟨b, O, none⟩) m c
  | 4, v, _ => v = .int .i64 kx
  | 5, v, _ => v = .pointer (some ⟨b, O + kx * 26, none⟩)
  | 6, v, _ => v = .agg CX.toArray
  | 7, v, _ => v = .agg CK
  | 8, v, _ => v = .bool true
  | 9, v, _ => v = .bool true
  | 10, v, _ => v = .pointer (some ⟨r, 0, none⟩)
  | 11, v, _ => v = .pointer (some ⟨r, 0, none⟩)
  | 12, v, _ => v = .pointer (some ⟨r, 1, none⟩)
  | 13, v, _ => v = .slice (some ⟨b, O, none⟩) m c
  | 14, v, _ => v = .int .i64 kx
  | 15, v, _ => v = .pointer (some ⟨b, O + kx * 26, none⟩)
  | 16, v, _ => v = .pointer (some ⟨b, O + kx * 26 + 21, none⟩)
  | 17, v, _ => v = .int .u8 xs
  | 18, v, _ => v = .pointer (some ⟨bx, 21, none⟩)
  | 19, v, _ => v = .int .u8 ks
  | 20, v, _ => v = .bool false
  | 21, v, _ => v = .bool false
  | 22, v, _ => v = .pointer (some ⟨r, 0, none⟩)
  | 23, v, _ => v = .pointer (some ⟨r, 0, none⟩)
  | 24, v, _ => v = .pointer (some ⟨r, 1, none⟩)
  | 25, v, _ => v = .slice (some ⟨b, O, none⟩) m c
  | 26, v, _ => v = .int .i64 kx
  | 27, v, _ => v = .pointer (some ⟨b, O + kx * 26, none⟩)
  | 28, v, _ => v = .pointer (some ⟨b, O + kx * 26 + 22, none⟩)
  | 29, v, _ => v = .int .u8 xr
  | 30, v, _ => v = .pointer (some ⟨bx, 22, none⟩)
  | 31, v, _ => v = .int .u8 kr
  | 32, v, _ => v = .bool true
  | 33, v, _ => v = .bool true
  | 34, v, _ => v = .bool true
  | _, _, _ => True
theorem acV.keep (r b bx O m c kx : Nat) (CX : List Value) (CK : Array Value) (xs ks xr kr : Int) (i : Nat) (v : Value) (w w' : World) (hb : Below w.heap.size w w') (h : acV r b bx O m c kx CX CK xs ks xr kr i v w) : acV r b bx O m c kx CX CK xs ks xr kr i v w' := by
  unfold acV at h ⊢
  split at h <;> exact h
def acT : List (Option Nat) := [none, none, none, none, none, none, none, none, none, none, none, none, none, none, none, none, none, none, none, some 0, some 1, some 2, some 3, some 4, some 5, some 6, some 7, some 8, some 9, some 10, some 11, some 12, some 13, some 14, some 15, some 16, some 17, some 18, some 19, some 20, some 21, some 22, some 23, some 24, some 25, some 26, some 27, some 28, some 29, some 30, some 31, some 32, some 33, some 34, none, none, none, none, none, none, none, none, none, none, none, none, none, none, none, none, none, none, none, none, none, none, none, none, none, none, none, none, none, none, none, none, none, none, none, none, none, none]
def adV (r b bx O m c kx : Nat) (CX : List Value) (CK : Array Value) (xs ks xr kr : Int) : Nat → Value → World → Prop
  | 0, v, _ => v = .pointer (some ⟨r, 0, none⟩)
  | 1, v, _ => v = .pointer (some ⟨r, 0, none⟩)
  | 2, v, _ => v = .pointer (some ⟨r, 1, none⟩)
  | 3, v, _ => v = .slice (some ⟨b, O, none⟩) m c
  | 4, v, _ => v = .int .i64 kx
  | 5, v, _ => v = .pointer (some ⟨b, O + kx * 26, none⟩)
  | 6, v, _ => v = .agg CX.toArray
  | 7, v, _ => v = .agg CK
  | 8, v, _ => v = .bool true
  | 9, v, _ => v = .bool true
  | 10, v, _ => v = .pointer (some ⟨r, 0, none⟩)
  | 11, v, _ => v = .pointer (some ⟨r, 0, none⟩)
  | 12, v, _ => v = .pointer (some ⟨r, 1, none⟩)
  | 13, v, _ => v = .slice (some ⟨b, O, none⟩) m c
  | 14, v, _ => v = .int .i64 kx
  | 15, v, _ => v = .pointer (some ⟨b, O + kx * 26, none⟩)
  | 16, v, _ => v = .pointer (some ⟨b, O + kx * 26 + 21, none⟩)
  | 17, v, _ => v = .int .u8 xs
  | 18, v, _ => v = .pointer (some ⟨bx, 21, none⟩)
  | 19, v, _ => v = .int .u8 ks
  | 20, v, _ => v = .bool false
  | 21, v, _ => v = .bool false
  | 22, v, _ => v = .pointer (some ⟨r, 0, none⟩)
  | 23, v, _ => v = .pointer (some ⟨r, 0, none⟩)
  | 24, v, _ => v = .pointer (some ⟨r, 1, none⟩)
  | 25, v, _ => v = .slice (some ⟨b, O, none⟩) m c
  | 26, v, _ => v = .int .i64 kx
  | 27, v, _ => v = .pointer (some ⟨b, O + kx * 26, none⟩)
  | 28, v, _ => v = .pointer (some ⟨b, O + kx * 26 + 22, none⟩)
  | 29, v, _ => v = .int .u8 xr
  | 30, v, _ => v = .pointer (some ⟨bx, 22, none⟩)
  | 31, v, _ => v = .int .u8 kr
  | 32, v, _ => v = .bool false
  | 33, v, _ => v = .bool false
  | 34, v, _ => v = .bool false
  | _, _, _ => True
theorem adV.keep (r b bx O m c kx : Nat) (CX : List Value) (CK : Array Value) (xs ks xr kr : Int) (i : Nat) (v : Value) (w w' : World) (hb : Below w.heap.size w w') (h : adV r b bx O m c kx CX CK xs ks xr kr i v w) : adV r b bx O m c kx CX CK xs ks xr kr i v w' := by
  unfold adV at h ⊢
  split at h <;> exact h
def adT : List (Option Nat) := [none, none, none, none, none, none, none, none, none, none, none, none, none, none, none, none, none, none, none, some 0, some 1, some 2, some 3, some 4, some 5, some 6, some 7, some 8, some 9, some 10, some 11, some 12, some 13, some 14, some 15, some 16, some 17, some 18, some 19, some 20, some 21, some 22, some 23, some 24, some 25, some 26, some 27, some 28, some 29, some 30, some 31, some 32, some 33, some 34, none, none, none, none, none, none, none, none, none, none, none, none, none, none, none, none, none, none, none, none, none, none, none, none, none, none, none, none, none, none, none, none, none, none, none, none, none, none]
def apV (r m c : Nat) (A2 : Option Addr) (CN : Array Value) : Nat → Value
  | 0 => .pointer (some ⟨r, 0, none⟩)
  | 1 => .pointer (some ⟨r, 0, none⟩)
  | 2 => .pointer (some ⟨r, 0, none⟩)
  | 3 => .pointer (some ⟨r, 1, none⟩)
  | 4 => .slice A2 m c
  | 6 => .agg CN
  | 9 => .pointer (some ⟨r, 0, none⟩)
  | 10 => .pointer (some ⟨r, 1, none⟩)
  | _ => undef
def apT : List (Option Nat) := [none, none, none, none, none, none, none, none, none, none, none, none, none, none, none, none, none, none, none, none, none, none, none, none, none, none, none, none, none, none, none, none, none, none, none, none, none, none, none, none, none, none, none, none, none, none, none, none, none, none, none, none, none, none, none, none, none, none, none, none, none, none, none, none, none, none, none, none, none, none, none, none, none, none, none, none, none, none, none, some 0, some 1, some 2, some 3, some 4, some 5, some 6, some 7, some 8, some 9, some 10, none, none]
set_option maxRecDepth 100000 in
set_option maxHeartbeats 8000000 in
theorem radd_any (w : World) (r M : Nat) (rg : Rg) (k : Kt) (A : Option Addr) (n cc : Nat) (ms : List Int) (P : Nat → Prop) (hP : ∀ b, w.heap.size ≤ b → P b) (h : RgF w r M rg P) (hk : KeAt w M ⟨k, A, n, cc, ms⟩) : Calls Try.prog 14 #[.pointer (some ⟨r, 0, none⟩), .agg (ktV k A n cc)] w (AddR w r M P (addN rg (k, ms)) (addErr rg (k, ms)) (addR rg (k, ms))) := by
  obtain ⟨A2, m, c, es, hd, hap⟩ := h
  have HAP := Lib.hid hap
  have HPN := Lib.hid hP
  clear hap hP
  have hlen : ms.length = n := hk.len
  obtain ⟨W, hW⟩ : ∃ W, W = w.alloc (.cells (ktV k A n cc) 41) := ⟨_, rfl⟩
  obtain ⟨bx, hbx⟩ : ∃ b, b = w.heap.size := ⟨_, rfl⟩
  have RB := Lib.hid (show W.heap[bx]? = some (.cells (ktV k A n cc) 41 (0, 0)) by rw [hW, hbx]; exact heap_alloc_new _ _)
  have HB := Lib.hid (show Below w.heap.size w W by rw [hW]; exact alloc_below _ _)
  have HBX := Lib.hid hbx
  have HD0 := Lib.hid hd
  have HD := Lib.hid (hd.below HB.out)
  have HM := Lib.hid hd.le
  have HNC := Lib.hid hd.nc
  have LL := Lib.hid hd.keys.len
  have IK := Lib.hid (rkV_info (A := A) (m := n) (c := cc) hk.ok)
  have MAY := Lib.hid (fun w' => rmay_any k A n cc w' hk.ok)
  have MEET := Lib.hid (fun (e : Ke) (h : e.k.Ok) w' => rmeet_any e.k k e.A A e.n e.c n cc w' h hk.ok)
  have CLS := Lib.hid (fun (e : Ke) (h : KeAt w M e) => clash_of h (k := k) hlen)
  have HK := Lib.hid hk
  have HRB := Lib.hid (fun (w' : World) (h : w'.heap[bx]? = some (.cells (ktV k A n cc) 41 (0, 0))) => (show w'.cell? ⟨bx, 21, none⟩ = some (.int .u8 k.si) ∧ w'.cell? ⟨bx, 22, none⟩ = some (.int .u8 k.ri) from ⟨kt_cell h (kt_si hk.ok), kt_cell h (kt_ri hk.ok)⟩))
  have NUM := Lib.hid (fun v => kt_num (k := k) (A := A) (n := n) (c := cc) v)
  have RGL := Lib.hid (show rg.l.length = m by rw [← hd.val, List.length_map, hd.keys.len])
  obtain ⟨nn, hnn⟩ : ∃ q, q = addN rg (k, ms) := ⟨_, rfl⟩
  obtain ⟨er, her⟩ : ∃ q, q = addErr rg (k, ms) := ⟨_, rfl⟩
  obtain ⟨rg', hrg⟩ : ∃ q, q = addR rg (k, ms) := ⟨_, rfl⟩
  rw [← hnn, ← her, ← hrg]
  have FAIL := Lib.hid (show er ≠ 0 → nn = 0 ∧ rg' = rg from fun h => by
    rw [her] at h
    exact ⟨by rw [hnn]; unfold addN; rw [if_neg h], by rw [hrg]; unfold addR; rw [if_neg h]⟩)
  have GOOD := Lib.hid (show er = 0 → nn = rg.last + 1 ∧ rg' = ⟨rg.last + 1, rg.l ++ [({ k with n := rg.last + 1 }, ms)]⟩ from fun h => by
    rw [her] at h
    exact ⟨by rw [hnn]; unfold addN; rw [if_pos h], by rw [hrg]; unfold addR; rw [if_pos h]⟩)
  rw [addErr_eq] at her
  rw [show (k, ms).2.length = n from hlen] at her
  have HER := Lib.hid her
  clear her hnn hrg hd hk hlen
  generalize hCK : ktV k A n cc = CK at *
  have HCK := Lib.hid hCK
  clear hCK
  cases hmay : mayB k n
  · have hv := Lib.hid (show er = 1 by rw [HER.out]; show (if mayB k n = true then _ else _) = _; rw [hmay]; rfl)
    rw [hmay] at MAY
    have HF := Lib.hid (FAIL.out (by rw [hv.out]; decide))
    clear hmay
    go_enter Try.func14, Try.ntmps14
    go_upto_region 1 with fail
    rw [← hW, ← hbx]
    clear hW hbx
    go_wp2_with (first
      | (refine wpList_load_row rfl 41 (.tmp 3) rfl bx rfl _ _ _ _ RB.out Try.underlying41 rfl IK.out ?_)
      | (go_at_call 35; (with_reducible refine (MAY.out _).mono ?_); rintro e w2 ⟨rfl, BB⟩; have HW2 := Lib.hid BB; clear BB))
    go_ret2
    exact ⟨by rw [hv.out, HF.out.1]; rfl, by rw [HF.out.2]; exact ⟨A2, m, c, es, HD.out.below HW2.out, HAP.out⟩, But.below (HB.out.trans (HW2.out.mono HB.out.size))⟩
  rw [hmay] at MAY
  have HER1 := Lib.hid (show er = if rg.l.any (fun x => clash x (k, ms)) then 7 else if 32 ≤ rg.l.length ∨ 2147483647 ≤ rg.last then 5 else 0 by
    rw [HER.out]
    show (if mayB k n = true then _ else _) = _
    rw [hmay]; rfl)
  clear hmay HER
  obtain ⟨kp, hkp⟩ : ∃ p : Kp, p = (k, ms) := ⟨_, rfl⟩
  rw [← hkp] at HER1
  have CLS := Lib.hid (show ∀ (e : Ke), KeAt w M e → clash e.val kp = (meetB e.k e.n k n && (decide (e.k.si = k.si) || decide (e.k.ri = k.ri))) from fun e h => by rw [hkp]; exact CLS.out e h)
  have KSI := Lib.hid (show ∃ ks, ks = k.si from ⟨_, rfl⟩)
  obtain ⟨ks, hks⟩ := KSI.out
  obtain ⟨kr, hkr⟩ : ∃ kr, kr = k.ri := ⟨_, rfl⟩
  rw [← hks, ← hkr] at HRB
  rw [← hks, ← hkr] at CLS
  have HKP := Lib.hid hkp
  clear KSI hks hkr hkp
  go_enter Try.func14, Try.ntmps14
  go_upto_region 1 with fail
  rw [← hW, ← hbx]
  clear hW hbx
  go_upto_region 4 with (first
    | (refine wpList_load_row rfl 41 (.tmp 3) rfl bx rfl _ _ _ _ RB.out Try.underlying41 rfl IK.out ?_)
    | (go_at_call 35; (with_reducible refine (MAY.out _).mono ?_); rintro e w2 ⟨rfl, BB⟩; have HW2 := Lib.hid BB; clear BB))
  clear MAY
  go_loopw [6] (fun u wr => ∃ i : Nat, i ≤ m ∧ u = .int .i64 i ∧ (∀ x ∈ es.take i, clash x.val kp = false) ∧ Below W.heap.size W wr) (fun u _ => m - (intOf u).toNat)
  case atStart => exact ⟨0, by omega, rfl, (fun x hx => by rw [List.take_zero] at hx; cases hx), HW2.out⟩
  case round =>
    obtain ⟨i, hi, rfl, hno, hbw⟩ := hrel
    have HN := Lib.hid hno
    have HBW := Lib.hid hbw
    have HD2 := Lib.hid (HD.out.below hbw)
    clear hno hbw
    by_cases hlt : i < m
    rotate_left
    · have q6 : ¬ (i : Int) < (m : Int) := by omega
      have hany := any_no (k := kp) HD.out.val (fun x hx => HN.out x (by rw [List.take_of_length_le (by rw [LL.out]; omega)]; exact hx))
      have HE := Lib.hid (show er = if 32 ≤ m ∨ 2147483647 ≤ rg.last then 5 else 0 by rw [HER1.out, hany, if_neg (by decide), RGL.out])
      have cl := HD2.out.l_
      have ca := HD2.out.last_
      clear hlt hi hany HER1 HN
      by_cases hfull : 32 ≤ m
      · have hv := Lib.hid (show er = 5 by rw [HE.out, if_pos (.inl hfull)])
        have HF := Lib.hid (FAIL.out (by rw [hv.out]; decide))
        have q7 : decide ((m : Int) ≥ 32) = true := decide_eq_true (by omega)
        clear hfull
        go_wp2_with (first | go_skip)
        go_ret2
        exact ⟨by rw [hv.out, HF.out.1]; rfl, by rw [HF.out.2]; exact ⟨A2, m, c, es, HD2.out, HAP.out⟩, But.below (HB.out.trans (HBW.out.mono HB.out.size))⟩
      · have q7 : decide ((m : Int) ≥ 32) = false := decide_eq_false (by omega)
        by_cases htop : 2147483647 ≤ rg.last
        · have hv := Lib.hid (show er = 5 by rw [HE.out, if_pos (.inr htop)])
          have HF := Lib.hid (FAIL.out (by rw [hv.out]; decide))
          have q8 : decide (rg.last ≥ 2147483647) = true := decide_eq_true htop
          clear hfull htop
          go_wp2_with (first | go_skip)
          go_ret2
          exact ⟨by rw [hv.out, HF.out.1]; rfl, by rw [HF.out.2]; exact ⟨A2, m, c, es, HD2.out, HAP.out⟩, But.below (HB.out.trans (HBW.out.mono HB.out.size))⟩
        · have hv := Lib.hid (show er = 0 by rw [HE.out, if_neg (fun h => by rcases h with h | h; exact hfull h; exact htop h)])
          have HG0 := Lib.hid (GOOD.out hv.out)
          have q8 : decide (rg.last ≥ 2147483647) = false := decide_eq_false htop
          have HL0 := Lib.hid (show 0 ≤ rg.last + 1 ∧ rg.last + 1 ≤ 2147483647 from ⟨by have := HD.out.l0; omega, by omega⟩)
          have HF32 := Lib.hid (show m + 1 ≤ 32 by omega)
          obtain ⟨l1, hl1⟩ : ∃ l : Int, l = rg.last + 1 := ⟨_, rfl⟩
          have wl : IntKind.i64.wrap (rg.last + 1) = l1 := by rw [hl1]; exact IntWalk.i64_in _ (by have := HL0.out; omega)
          rw [← hl1] at HG0 HL0
          have fk := frozen_of_row wr r 0 _ _ HD2.out.row
          clear hfull htop hl1
          go_upto_region 11 with (first | go_skip)
          obtain ⟨w4, hw4⟩ : ∃ w4, w4 = wr.setCell ⟨r, 0, none⟩ (.int .i64 l1) := ⟨_, rfl⟩
          rw [← hw4]
          have hrow4 : w4.heap[r]? = some (.cells #[.int .i64 l1, .slice A2 m c] 35 (0, 0)) := by
            rw [hw4]
            have := heap_setCell_same wr r 0 _ _ (.int .i64 l1) HD2.out.row
            simpa using this
          have hbt4 : But r wr w4 := by rw [hw4]; exact (But.refl wr).setCell 0 _
          have hne : bx ≠ r := by have := HD0.out.lt; have := HBX.out; omega
          have RB4 := Lib.hid (show w4.heap[bx]? = some (.cells CK 41 (0, 0)) from (hbt4.block bx (by have := lt_of_row RB.out; have := HBW.out.size; omega) hne).trans ((HBW.out.block bx (lt_of_row RB.out)).trans RB.out))
          have cb4 := cell_of_row w4 r 0 _ _ (0, 0) hrow4
          have ck4 := cell_of_row w4 bx 0 _ _ (0, 0) RB4.out
          have fk4 := frozen_of_row w4 bx 0 _ _ RB4.out
          have C0 := Lib.hid (show CK[0]? = some (.int .i64 k.n) by rw [← HCK.out]; rfl)
          rw [C0.out] at ck4
          have HBT4 := Lib.hid hbt4
          have HROW4 := Lib.hid hrow4
          have HNE := Lib.hid hne
          clear hw4 hrow4 hbt4 hne cl ca q7 q8 wl fk
          go_upto_region 12 with fail
          obtain ⟨w5, hw5⟩ : ∃ w5, w5 = w4.setCell ⟨bx, 0, none⟩ (.int .i64 l1) := ⟨_, rfl⟩
          rw [← hw5]
          obtain ⟨ke, hke⟩ : ∃ q : Ke, q = ⟨{ k with n := l1 }, A, n, cc, ms⟩ := ⟨_, rfl⟩
          obtain ⟨CN, hCN⟩ : ∃ C, C = ke.V := ⟨_, rfl⟩
          have hrow5 : w5.heap[bx]? = some (.cells CN 41 (0, 0)) := by
            rw [hw5, hCN, hke]
            have := heap_setCell_same w4 bx 0 _ _ (.int .i64 l1) RB4.out
            rw [NUM.out] at this
            exact this
          have hbt5 : But bx w4 w5 := by rw [hw5]; exact (But.refl w4).setCell 0 _
          have HBXL := Lib.hid (show w.heap.size ≤ bx by rw [HBX.out]; exact Nat.le_refl _)
          have hbt : But r w w5 := by
            have h1 : But r w w4 := (But.below (HB.out.trans (HBW.out.mono HB.out.size))).trans HBT4.out
            rw [hw5]
            exact h1.fresh HBXL.out _
          have HKE := Lib.hid (show KeAt w5 M ke by
            have hM : M ≤ r := HD0.out.mr
            have hb := hbt.to_below hM (by have := HD0.out.lt; omega)
            rw [hke]
            exact ⟨kt_numOk HK.out.ok (by have := HL0.out; omega), HK.out.nums.below hb, HK.out.byte, HK.out.cap, HK.out.max⟩)
          have HD5 := Lib.hid (show RgD w5 r M A2 m c es ⟨l1, rg.l⟩ from
            ⟨(hbt5.block r (lt_of_row HROW4.out) (Ne.symm HNE.out)).trans HROW4.out,
             ⟨HD0.out.keys.len, fun hn => by
               obtain ⟨b, o, e, hlo, hlt, hcs⟩ := HD0.out.keys.at_ hn
               exact ⟨b, o, e, hlo, by have := hbt.size; omega, fun i f hf j v hv => (hbt.cell (a := ⟨b, o + i * 26 + j, none⟩) hlt (by show b ≠ r; omega)).trans (hcs i f hf j v hv)⟩⟩,
             fun e he => by
               have hM : M ≤ r := HD0.out.mr
               exact (HD0.out.ok e he).below (hbt.to_below hM (by have := HD0.out.lt; omega)) (Nat.le_refl _),
             HD0.out.val, HD0.out.nc, HD0.out.cm, HD0.out.le, HD0.out.mr, HL0.out.1, HL0.out.2, HD0.out.nil⟩)
          have HBT := Lib.hid hbt
          have RB5 := Lib.hid hrow5
          have VN := Lib.hid (show CN = ke.V from hCN)
          have IN := Lib.hid (show (Try.prog.info? 41).map (·.size) = some CN.size by rw [hCN, Ke.V_size HKE.out]; exact rk_info)
          have SN := Lib.hid (show CN.size = 26 by rw [hCN, Ke.V_size HKE.out])
          have L1 := Lib.hid (show ∀ x ∈ [ke], x.L.length = 26 from fun x hx => by rw [List.mem_singleton.1 hx]; exact Ke.L_len HKE.out)
          have ROW := Lib.hid (fun (w' : World) (g : Nat) (h : w'.heap[g]? = some (.cells CN 41 (0, 0))) => (show RowK w' 0 w'.heap.size (some ⟨g, 0, none⟩) 1 [ke] from rowK1 (by rw [← VN.out]; exact h) (Nat.zero_le _)))
          have E2K := Lib.hid (show ∀ e ∈ es ++ [ke], KeAt w5 M e from fun e he => by
            rcases List.mem_append.1 he with h | h
            · exact HD5.out.ok e h
            · rw [List.mem_singleton.1 h]; exact HKE.out)
          have E2L := Lib.hid (show ∀ e ∈ es ++ [ke], e.L.length = 26 from fun e he => Ke.L_len (E2K.out e he))
          have E2N := Lib.hid (show (es ++ [ke]).length ≤ 32 by rw [List.length_append, LL.out]; exact HF32.out)
          have HG1 := Lib.hid (show rg' = ⟨l1, (es ++ [ke]).map Ke.val⟩ by rw [HG0.out.2, List.map_append, HD0.out.val, hke]; rfl)
          have CN0 := Lib.hid (show CN[0]? = some (.int .i64 l1) by rw [hCN, hke]; rfl)
          clear hw5 hrow5 hbt5 hbt hCN hke cb4 ck4 fk4
          refine with_act fun a0 ha0 => ?_
          have hl : apT.length = a0.tmps.size := by rw [ha0]; rfl
          have k0 : a0.tmps[0]?.getD undef = .pointer (some ⟨r, 0, none⟩) := by rw [ha0]; rfl
          have k3 : a0.tmps[3]?.getD undef = .pointer (some ⟨bx, 0, none⟩) := by rw [ha0]; rfl
          refine wp_region_J (by kernel_rfl) apT (by kernel_rfl) (by kernel_rfl) hl (fun i => a0.tmps[i + 79]?.getD undef) (by rw [ha0]; rfl) (ApJ w5 r 5 8 7 11 (apV r m c A2 CN) es (es ++ [ke]) ke) (ApJ.start (Below.refl _ _).drew) ⟨?_, ?_, ?_, ?_, ?_, ?_, ?_, ?_, ?_, ?_, ?_, ?_, trivial⟩ ?_
          · refine stepJ [] (by kernel_rfl) rfl fun mm us w' hJ hmi hm => ?_
            have hs := hJ.open_ (i := 0) (by decide) (by decide) hmi
            have hB := hJ.bel hs
            have o0 := (frame_old2 (us := us) (a := a0) (show (apT[0]?).join = none from rfl)).trans k0
            generalize frame apT a0 us = fr at *
            exact val_J (v := .pointer (some ⟨r, 0, none⟩)) (w' := w') (by go_simp) (hJ.val_ 0 (by decide) hmi (by decide) (by decide) (by decide) _ rfl)
          · refine stepJ [] (by kernel_rfl) rfl fun mm us w' hJ hmi hm => ?_
            have hs := hJ.open_ (i := 1) (by decide) (by decide) hmi
            have hB := hJ.bel hs
            have o0 := (frame_old2 (us := us) (a := a0) (show (apT[0]?).join = none from rfl)).trans k0
            generalize frame apT a0 us = fr at *
            exact val_J (v := .pointer (some ⟨r, 0, none⟩)) (w' := w') (by go_simp) (hJ.val_ 1 (by decide) hmi (by decide) (by decide) (by decide) _ rfl)
          · refine stepJ [1] (by kernel_rfl) rfl fun mm us w' hJ hmi hm => ?_
            have hs := hJ.open_ (i := 2) (by decide) (by decide) hmi
            have hB := hJ.bel hs
            have e1 : us 1 = .pointer (some ⟨r, 0, none⟩) := hJ.val 1 (hm 1 (by simp)) (by decide) (by decide) (by decide) (by decide)
            have v1 := (frame_at2 (us := us) hl (show (apT[80]?).join = some 1 from rfl)).trans e1
            generalize frame apT a0 us = fr at *
            exact val_J (v := .pointer (some ⟨r, 0, none⟩)) (w' := w') (by go_simp) (hJ.val_ 2 (by decide) hmi (by decide) (by decide) (by decide) _ rfl)
          · refine stepJ [2] (by kernel_rfl) rfl fun mm us w' hJ hmi hm => ?_
            have hs := hJ.open_ (i := 3) (by decide) (by decide) hmi
            have hB := hJ.bel hs
            have e2 : us 2 = .pointer (some ⟨r, 0, none⟩) := hJ.val 2 (hm 2 (by simp)) (by decide) (by decide) (by decide) (by decide)
            have v2 := (frame_at2 (us := us) hl (show (apT[81]?).join = some 2 from rfl)).trans e2
            generalize frame apT a0 us = fr at *
            exact val_J (v := .pointer (some ⟨r, 1, none⟩)) (w' := w') (by go_simp) (hJ.val_ 3 (by decide) hmi (by decide) (by decide) (by decide) _ rfl)
          · refine stepJ [3] (by kernel_rfl) rfl fun mm us w' hJ hmi hm => ?_
            have hs := hJ.open_ (i := 4) (by decide) (by decide) hmi
            have hB := hJ.bel hs
            have e3 : us 3 = .pointer (some ⟨r, 1, none⟩) := hJ.val 3 (hm 3 (by simp)) (by decide) (by decide) (by decide) (by decide)
            have v3 := (frame_at2 (us := us) hl (show (apT[82]?).join = some 3 from rfl)).trans e3
            have hc := (HD5.out.below hB).l_
            generalize frame apT a0 us = fr at *
            exact val_J (v := .slice A2 m c) (w' := w') (by go_simp) (hJ.val_ 4 (by decide) hmi (by decide) (by decide) (by decide) _ rfl)
          · refine stepJ [4] (by kernel_rfl) rfl fun mm us w' hJ hmi hm => ?_
            have hs := hJ.open_ (i := 5) (by decide) (by decide) hmi
            have hB := hJ.bel hs
            have e4 : us 4 = .slice A2 m c := hJ.val 4 (hm 4 (by simp)) (by decide) (by decide) (by decide) (by decide)
            have v4 := (frame_at2 (us := us) hl (show (apT[83]?).join = some 4 from rfl)).trans e4
            generalize frame apT a0 us = fr at *
            exact appK_J (R := fun v w'' => (ApJ w5 r 5 8 7 11 (apV r m c A2 CN) es (es ++ [ke]) ke) (upd mm 5 true) (upd us 5 v) w'') (.const (.slice none 0 0)) (.tmp 83) rfl w5.heap.size (.slice none 0 0) [] rfl (OwnK.nil _ _) _ _ A2 m c es (ev_tmpM v4) (HD5.out.keys.below hB hB.size) HD5.out.L26 (by have := HM.out; simp; omega) HD5.out.nil hB.size fun v' w'' h1 h2 => hJ.one (by decide) hmi (by decide) (by decide) h1 (grown_below h2 (Nat.le_refl _) (fun g hg => by cases hg))
          · refine stepJ [] (by kernel_rfl) rfl fun mm us w' hJ hmi hm => ?_
            have hs := hJ.open_ (i := 6) (by decide) (by decide) hmi
            have hB := hJ.bel hs
            have o3 := (frame_old2 (us := us) (a := a0) (show (apT[3]?).join = none from rfl)).trans k3
            have hc := (hB.block _ (lt_of_row RB5.out)).trans RB5.out
            generalize frame apT a0 us = fr at *
            exact load_J (R := fun v w'' => (ApJ w5 r 5 8 7 11 (apV r m c A2 CN) es (es ++ [ke]) ke) (upd mm 6 true) (upd us 6 v) w'') 41 3 rfl bx o3 _ CN (0, 0) _ hc Try.underlying41 rfl IN.out (hJ.val_ 6 (by decide) hmi (by decide) (by decide) (by decide) _ rfl)
          · refine stepJ [6] (by kernel_rfl) rfl fun mm us w' hJ hmi hm => ?_
            have hs := hJ.open_ (i := 7) (by decide) (by decide) hmi
            have hB := hJ.bel hs
            have e6 : us 6 = .agg CN := hJ.val 6 (hm 6 (by simp)) (by decide) (by decide) (by decide) (by decide)
            have v6 := (frame_at2 (us := us) hl (show (apT[85]?).join = some 6 from rfl)).trans e6
            generalize frame apT a0 us = fr at *
            exact litK_J (R := fun v w'' => (ApJ w5 r 5 8 7 11 (apV r m c A2 CN) es (es ++ [ke]) ke) (upd mm 7 true) (upd us 7 v) w'') 85 rfl CN v6 SN.out (hJ.lit (by decide) hmi (by decide) (by decide) (ROW.out _ _ (heap_alloc_new _ _)) (alloc_below _ _))
          · refine stepJ [5, 7] (by kernel_rfl) rfl fun mm us w' hJ hmi hm => ?_
            have hs := hJ.open_ (i := 8) (by decide) (by decide) hmi
            have hB := hJ.bel hs
            have f5 := (frame_at2 (us := us) (a := a0) hl (show (apT[84]?).join = some 5 from rfl))
            have ho := hJ.a1 (hm 5 (by simp)) hmi
            have hma := hm 5 (by simp)
            have hmd := hm 7 (by simp)
            obtain ⟨g7, e7, hr7⟩ := hJ.d hmd hmi
            have v7 := (frame_at2 (us := us) (a := a0) hl (show (apT[86]?).join = some 7 from rfl)).trans e7
            generalize frame apT a0 us = fr at *
            exact appK_J (R := fun v w'' => (ApJ w5 r 5 8 7 11 (apV r m c A2 CN) es (es ++ [ke]) ke) (upd mm 8 true) (upd us 8 v) w'') (.tmp 84) (.tmp 86) rfl w5.heap.size (us 5) es (ev_tmpM f5) ho _ _ (some ⟨g7, 0, none⟩) 1 1 [ke] (ev_tmpM v7) hr7 L1.out (by have := HM.out; have := LL.out; omega) (fun e => absurd e (by decide)) hB.size fun v' w'' h1 h2 => hJ.two (by decide) hmi hma (fun _ => hmd) (by decide) (by decide) h1 (grown_below h2 hB.size (fun g hg => (ho.blk g hg).1))
          · refine stepJ [0] (by kernel_rfl) rfl fun mm us w' hJ hmi hm => ?_
            have e0 : us 0 = .pointer (some ⟨r, 0, none⟩) := hJ.val 0 (hm 0 (by simp)) (by decide) (by decide) (by decide) (by decide)
            have v0 := (frame_at2 (us := us) hl (show (apT[79]?).join = some 0 from rfl)).trans e0
            generalize frame apT a0 us = fr at *
            exact val_J (v := .pointer (some ⟨r, 0, none⟩)) (w' := w') (by go_simp) (hJ.val_ 9 (by decide) hmi (by decide) (by decide) (by decide) _ rfl)
          · refine stepJ [9] (by kernel_rfl) rfl fun mm us w' hJ hmi hm => ?_
            have hs := hJ.open_ (i := 10) (by decide) (by decide) hmi
            have hB := hJ.bel hs
            have e9 : us 9 = .pointer (some ⟨r, 0, none⟩) := hJ.val 9 (hm 9 (by simp)) (by decide) (by decide) (by decide) (by decide)
            have v9 := (frame_at2 (us := us) hl (show (apT[88]?).join = some 9 from rfl)).trans e9
            generalize frame apT a0 us = fr at *
            exact val_J (v := .pointer (some ⟨r, 1, none⟩)) (w' := w') (by go_simp) (hJ.val_ 10 (by decide) hmi (by decide) (by decide) (by decide) _ rfl)
          · refine stepJ [0, 1, 2, 3, 4, 5, 6, 7, 8, 10] (by kernel_rfl) rfl fun mm us w' hJ hmi hm => ?_
            have hs := hmi
            have hB := hJ.bel hs
            have e10 : us 10 = .pointer (some ⟨r, 1, none⟩) := hJ.val 10 (hm 10 (by simp)) (by decide) (by decide) (by decide) (by decide)
            have v10 := (frame_at2 (us := us) hl (show (apT[89]?).join = some 10 from rfl)).trans e10
            have f8 := (frame_at2 (us := us) (a := a0) hl (show (apT[87]?).join = some 8 from rfl))
            have hrow := (HD5.out.below hB).row
            have hc := (HD5.out.below hB).l_
            have hf := frozen_of_row w' r 1 _ _ hrow
            have hall : ∀ i, i < 11 → i + 2 ≠ 11 → mm i = true := fun i hi hx => hm i (by simp; omega)
            obtain ⟨A9, c9, hv9, -, -, -⟩ := (hJ.a2 (hall 8 (by decide) (by decide)) hmi).form E2L.out
            rw [hv9] at f8
            generalize frame apT a0 us = fr at *
            exact free_skip (w' := w'.setCell ⟨r, 1, none⟩ (.slice A9 (es ++ [ke]).length c9)) (by go_simp) ⟨undef, rfl, hJ.sto hmi hall (by decide) (by decide) (by decide) _ hv9.symm⟩
          · intro m' us w6 hall hJ
            have hf := hJ.fin (hall 11 (by decide))
            have HF := Lib.hid hf
            clear hf hJ hall
            subst ha0
            simp only [frame, apT, fill]
            clear hl k0 k3
            obtain ⟨w1, hb1, ho1, hw1⟩ := HF.out
            have HG := Lib.hid (ring_sto (fun b hb => HPN.out b (Nat.le_trans HBT.out.size hb)) HD5.out hb1 ho1 hw1 E2K.out E2N.out)
            clear hb1 ho1 hw1 HF
            have RB6 := Lib.hid (show w6.heap[bx]? = some (.cells CN 41 (0, 0)) from (HG.out.2.block bx (lt_of_row RB5.out) HNE.out).trans RB5.out)
            have c6 := cell_of_row w6 bx 0 _ _ (0, 0) RB6.out
            rw [CN0.out] at c6
            generalize us 0 = u_0
            generalize us 1 = u_1
            generalize us 2 = u_2
            generalize us 3 = u_3
            generalize us 4 = u_4
            generalize us 5 = u_5
            generalize us 6 = u_6
            generalize us 7 = u_7
            generalize us 8 = u_8
            generalize us 9 = u_9
            generalize us 10 = u_10
            go_wp2_with fail
            go_ret2
            exact ⟨by rw [hv.out, HG0.out.1]; rfl, by rw [HG1.out]; exact HG.out.1, HBT.out.trans HG.out.2⟩
    have q6 : (i : Int) < (m : Int) := by omega
    obtain ⟨e, hei⟩ : ∃ e, es[i]? = some e := ⟨es[i]'(by rw [LL.out]; omega), List.getElem?_eq_getElem _⟩
    obtain ⟨b, O, hA, hlo, hb, hcs⟩ := HD2.out.keys.at_ (by omega)
    have oe := HD0.out.ok e (List.mem_of_getElem? hei)
    subst hA
    have KL := Lib.hid (fun w' (h : Gr wr w') => (HD2.out.below h).l_)
    have KP := Lib.hid (fun w' (h : Gr wr w') => (show w'.heap[bx]? = some (.cells CK 41 (0, 0)) from ((HBW.out.trans (Below.mono h HBW.out.size)).block _ (lt_of_row RB.out)).trans RB.out))
    have PS := Lib.hid (fun w' (h : Gr wr w') => (HRB.out w' (KP.out w' h)).1)
    have PR := Lib.hid (fun w' (h : Gr wr w') => (HRB.out w' (KP.out w' h)).2)
    have KC := Lib.hid (fun w' (h : Gr wr w') => (show ∀ j v, e.L[j]? = some v → w'.cell? ⟨b, O + i * 26 + j, none⟩ = some v from fun j v hv => (Below.cell h (p := ⟨b, O + i * 26 + j, none⟩) hb).trans (hcs i e hei j v hv)))
    have KS := Lib.hid (fun w' (h : Gr wr w') => KC.out w' h 21 _ (kt_si oe.ok))
    have KRr := Lib.hid (fun w' (h : Gr wr w') => KC.out w' h 22 _ (kt_ri oe.ok))
    have IX := Lib.hid (show (Try.prog.info? 41).map (·.size) = some e.L.length by rw [Ke.L_len oe]; exact rk_info)
    have MT := Lib.hid (fun w' => (show Calls Try.prog 36 #[.agg e.L.toArray, .agg CK] w' (Ret w' (.bool (meetB e.k e.n k n))) from MEET.out e oe.ok w'))
    have CL := Lib.hid (CLS.out e oe)
    have NO0 := Lib.hid (fun hf => take_no (f := fun x => clash x kp) HN.out hei hf)
    have HIT0 := Lib.hid (fun (hc : clash e.val kp = true) => (show er = 7 by rw [HER1.out, any_yes HD.out.val hei hc, if_pos rfl]))
    have I1 := Lib.hid q6
    have HI := Lib.hid hlt
    have cl := HD2.out.l_
    have wi : IntKind.i64.wrap ((i : Int) + 1) = (i : Int) + 1 := IntWalk.i64_in _ (by have := HM.out; omega)
    obtain ⟨xs, hxs⟩ : ∃ x, x = e.k.si := ⟨_, rfl⟩
    obtain ⟨xr, hxr⟩ : ∃ x, x = e.k.ri := ⟨_, rfl⟩
    rw [← hxs] at KS CL
    rw [← hxr] at KRr CL
    generalize hCX : e.L = CX at *
    generalize meetB e.k e.n k n = mt at *
    clear hei hcs oe hlo hb hlt hi hCX hxs hxr MEET CLS HRB
    cases mt
    · have NO := Lib.hid (NO0.out (by rw [CL.out]; rfl))
      clear NO0 HIT0 CL
      go_upto_region 6 with fail
      clear cl
      refine with_act fun a0 ha0 => ?_
      have hl : aaT.length = a0.tmps.size := by rw [ha0]; rfl
      have k0 : a0.tmps[0]?.getD undef = .pointer (some ⟨r, 0, none⟩) := by rw [ha0]; rfl
      have k3 : a0.tmps[3]?.getD undef = .pointer (some ⟨bx, 0, none⟩) := by rw [ha0]; rfl
      have k6 : a0.tmps[6]?.getD undef = .int .i64 i := by rw [ha0]; rfl
      refine wp_region_vals (by kernel_rfl) aaT (by kernel_rfl) (by kernel_rfl) hl (fun i => a0.tmps[i + 19]?.getD undef) (by rw [ha0]; rfl) (Gr wr) (aaV r b bx O m c i CX CK xs ks xr kr) (show Gr _ _ from (Below.refl _ _).drew) (aaV.keep _ _ _ _ _ _ _ _ _ _ _ _ _) ⟨?_, ?_, ?_, ?_, ?_, ?_, ?_, ?_, ?_, ?_, ?_, ?_, ?_, ?_, ?_, ?_, ?_, ?_, ?_, ?_, ?_, ?_, ?_, ?_, ?_, ?_, ?_, ?_, ?_, ?_, ?_, ?_, ?_, ?_, ?_, trivial⟩ ?_
      · refine step_plain [] (by kernel_rfl) rfl fun us w' hG hV => ?_
        have o0 := (frame_old2 (us := us) (a := a0) (show (aaT[0]?).join = none from rfl)).trans k0
        generalize frame aaT a0 us = fr at *
        exact val_ok (v := .pointer (some ⟨r, 0, none⟩)) (w' := w') (by go_simp) hG (Below.refl _ _) rfl
      · refine step_plain [0] (by kernel_rfl) rfl fun us w' hG hV => ?_
        have e0 : us 0 = .pointer (some ⟨r, 0, none⟩) := hV 0 (by simp)
        have v0 := (frame_at2 (us := us) hl (show (aaT[19]?).join = some 0 from rfl)).trans e0
        generalize frame aaT a0 us = fr at *
        exact val_ok (v := .pointer (some ⟨r, 0, none⟩)) (w' := w') (by go_simp) hG (Below.refl _ _) rfl
      · refine step_plain [1] (by kernel_rfl) rfl fun us w' hG hV => ?_
        have e1 : us 1 = .pointer (some ⟨r, 0, none⟩) := hV 1 (by simp)
        have v1 := (frame_at2 (us := us) hl (show (aaT[20]?).join = some 1 from rfl)).trans e1
        generalize frame aaT a0 us = fr at *
        exact val_ok (v := .pointer (some ⟨r, 1, none⟩)) (w' := w') (by go_simp) hG (Below.refl _ _) rfl
      · refine step_plain [2] (by kernel_rfl) rfl fun us w' hG hV => ?_
        have e2 : us 2 = .pointer (some ⟨r, 1, none⟩) := hV 2 (by simp)
        have v2 := (frame_at2 (us := us) hl (show (aaT[21]?).join = some 2 from rfl)).trans e2
        have hc := KL.out w' hG
        generalize frame aaT a0 us = fr at *
        exact val_ok (v := .slice (some ⟨b, O, none⟩) m c) (w' := w') (by go_simp) hG (Below.refl _ _) rfl
      · refine step_plain [] (by kernel_rfl) rfl fun us w' hG hV => ?_
        have o6 := (frame_old2 (us := us) (a := a0) (show (aaT[6]?).join = none from rfl)).trans k6
        generalize frame aaT a0 us = fr at *
        exact val_ok (v := .int .i64 i) (w' := w') (by go_simp) hG (Below.refl _ _) rfl
      · refine step_plain [3, 4] (by kernel_rfl) rfl fun us w' hG hV => ?_
        have e3 : us 3 = .slice (some ⟨b, O, none⟩) m c := hV 3 (by simp)
        have v3 := (frame_at2 (us := us) hl (show (aaT[22]?).join = some 3 from rfl)).trans e3
        have e4 : us 4 = .int .i64 i := hV 4 (by simp)
        have v4 := (frame_at2 (us := us) hl (show (aaT[23]?).join = some 4 from rfl)).trans e4
        have hi := I1.out
        generalize frame aaT a0 us = fr at *
        exact val_ok (v := .pointer (some ⟨b, O + i * 26, none⟩)) (w' := w') (by go_simp) hG (Below.refl _ _) rfl
      · refine step_plain [5] (by kernel_rfl) rfl fun us w' hG hV => ?_
        have e5 : us 5 = .pointer (some ⟨b, O + i * 26, none⟩) := hV 5 (by simp)
        have v5 := (frame_at2 (us := us) hl (show (aaT[24]?).join = some 5 from rfl)).trans e5
        have hg1 := KC.out w' hG
        generalize frame aaT a0 us = fr at *
        exact val_ok (v := .agg CX.toArray) (w' := w') (loadp_run (s := 24) rfl v5 CX _ hg1 Try.underlying41 rfl IX.out) hG (Below.refl _ _) rfl
      · refine step_plain [] (by kernel_rfl) rfl fun us w' hG hV => ?_
        have o3 := (frame_old2 (us := us) (a := a0) (show (aaT[3]?).join = none from rfl)).trans k3
        have hg1 := (KP.out w' hG)
        generalize frame aaT a0 us = fr at *
        exact load_ok 41 3 rfl (bx) o3 _ _ (0, 0) _ hg1 Try.underlying41 rfl IK.out hG rfl
      · refine step_plain [6, 7] (by kernel_rfl) rfl fun us w' hG hV => ?_
        have e6 : us 6 = .agg CX.toArray := hV 6 (by simp)
        have v6 := (frame_at2 (us := us) hl (show (aaT[25]?).join = some 6 from rfl)).trans e6
        have e7 : us 7 = .agg CK := hV 7 (by simp)
        have v7 := (frame_at2 (us := us) hl (show (aaT[26]?).join = some 7 from rfl)).trans e7
        generalize frame aaT a0 us = fr at *
        exact call_ok (f := 36) (args := #[.agg CX.toArray, .agg CK]) (by go_simp) ((MT.out w').mono fun e w'' h => ⟨_, h.1, hG.below h.2, h.2, rfl⟩)
      · refine step_plain [8] (by kernel_rfl) rfl fun us w' hG hV => ?_
        have e8 : us 8 = .bool false := hV 8 (by simp)
        have v8 := (frame_at2 (us := us) hl (show (aaT[27]?).join = some 8 from rfl)).trans e8
        generalize frame aaT a0 us = fr at *
        exact val_ok (v := .bool false) (w' := w') (by go_simp) hG (Below.refl _ _) rfl
      · exact step_skip [9] (by kernel_rfl) (j := 9) (t := 28) (b := true) rfl (by simp) rfl hl rfl (fun v w h => .inl h) fun _ => rfl
      · exact step_skip [9] (by kernel_rfl) (j := 9) (t := 28) (b := true) rfl (by simp) rfl hl rfl (fun v w h => .inl h) fun _ => rfl
      · exact step_skip [9] (by kernel_rfl) (j := 9) (t := 28) (b := true) rfl (by simp) rfl hl rfl (fun v w h => .inl h) fun _ => rfl
      · exact step_skip [9] (by kernel_rfl) (j := 9) (t := 28) (b := true) rfl (by simp) rfl hl rfl (fun v w h => .inl h) fun _ => rfl
      · exact step_skip [9] (by kernel_rfl) (j := 9) (t := 28) (b := true) rfl (by simp) rfl hl rfl (fun v w h => .inl h) fun _ => rfl
      · exact step_skip [9] (by kernel_rfl) (j := 9) (t := 28) (b := true) rfl (by simp) rfl hl rfl (fun v w h => .inl h) fun _ => rfl
      · exact step_skip [9] (by kernel_rfl) (j := 9) (t := 28) (b := true) rfl (by simp) rfl hl rfl (fun v w h => .inl h) fun _ => rfl
      · exact step_skip [9] (by kernel_rfl) (j := 9) (t := 28) (b := true) rfl (by simp) rfl hl rfl (fun v w h => .inl h) fun _ => rfl
      · exact step_skip [9] (by kernel_rfl) (j := 9) (t := 28) (b := true) rfl (by simp) rfl hl rfl (fun v w h => .inl h) fun _ => rfl
      · exact step_skip [9] (by kernel_rfl) (j := 9) (t := 28) (b := true) rfl (by simp) rfl hl rfl (fun v w h => .inl h) fun _ => rfl
      · exact step_skip [9] (by kernel_rfl) (j := 9) (t := 28) (b := true) rfl (by simp) rfl hl rfl (fun v w h => .inl h) fun _ => rfl
      · exact step_skip [9] (by kernel_rfl) (j := 9) (t := 28) (b := true) rfl (by simp) rfl hl rfl (fun v w h => .inl h) fun _ => rfl
      · exact step_skip [21] (by kernel_rfl) (j := 21) (t := 40) (b := false) rfl (by simp) rfl hl rfl (fun v w h => .inr h) fun _ => rfl
      · exact step_skip [21] (by kernel_rfl) (j := 21) (t := 40) (b := false) rfl (by simp) rfl hl rfl (fun v w h => .inr h) fun _ => rfl
      · exact step_skip [21] (by kernel_rfl) (j := 21) (t := 40) (b := false) rfl (by simp) rfl hl rfl (fun v w h => .inr h) fun _ => rfl
      · exact step_skip [21] (by kernel_rfl) (j := 21) (t := 40) (b := false) rfl (by simp) rfl hl rfl (fun v w h => .inr h) fun _ => rfl
      · exact step_skip [21] (by kernel_rfl) (j := 21) (t := 40) (b := false) rfl (by simp) rfl hl rfl (fun v w h => .inr h) fun _ => rfl
      · exact step_skip [21] (by kernel_rfl) (j := 21) (t := 40) (b := false) rfl (by simp) rfl hl rfl (fun v w h => .inr h) fun _ => rfl
      · exact step_skip [21] (by kernel_rfl) (j := 21) (t := 40) (b := false) rfl (by simp) rfl hl rfl (fun v w h => .inr h) fun _ => rfl
      · exact step_skip [21] (by kernel_rfl) (j := 21) (t := 40) (b := false) rfl (by simp) rfl hl rfl (fun v w h => .inr h) fun _ => rfl
      · exact step_skip [21] (by kernel_rfl) (j := 21) (t := 40) (b := false) rfl (by simp) rfl hl rfl (fun v w h => .inr h) fun _ => rfl
      · exact step_skip [21] (by kernel_rfl) (j := 21) (t := 40) (b := false) rfl (by simp) rfl hl rfl (fun v w h => .inr h) fun _ => rfl
      · exact step_skip [21] (by kernel_rfl) (j := 21) (t := 40) (b := false) rfl (by simp) rfl hl rfl (fun v w h => .inr h) fun _ => rfl
      · exact step_skip [9] (by kernel_rfl) (j := 9) (t := 28) (b := true) rfl (by simp) rfl hl rfl (fun v w h => .inl h) fun _ => rfl
      · refine step_plain [9] (by kernel_rfl) rfl fun us w' hG hV => ?_
        have e9 : us 9 = .bool false := hV 9 (by simp)
        have v9 := (frame_at2 (us := us) hl (show (aaT[28]?).join = some 9 from rfl)).trans e9
        generalize frame aaT a0 us = fr at *
        exact val_ok (v := .bool false) (w' := w') (by go_simp) hG (Below.refl _ _) rfl
      · intro us wz hG hV
        have e34 : us 34 = .bool false := hV 34 (by decide)
        subst ha0
        simp only [frame, aaT, fill]
        rw [e34]
        have HG := Lib.hid (show Below wr.heap.size wr wz from hG)
        have cl := KL.out wz hG
        clear hV hl hG e34
        generalize us 0 = u_0
        generalize us 1 = u_1
        generalize us 2 = u_2
        generalize us 3 = u_3
        generalize us 4 = u_4
        generalize us 5 = u_5
        generalize us 6 = u_6
        generalize us 7 = u_7
        generalize us 8 = u_8
        generalize us 9 = u_9
        generalize us 10 = u_10
        generalize us 11 = u_11
        generalize us 12 = u_12
        generalize us 13 = u_13
        generalize us 14 = u_14
        generalize us 15 = u_15
        generalize us 16 = u_16
        generalize us 17 = u_17
        generalize us 18 = u_18
        generalize us 19 = u_19
        generalize us 20 = u_20
        generalize us 21 = u_21
        generalize us 22 = u_22
        generalize us 23 = u_23
        generalize us 24 = u_24
        generalize us 25 = u_25
        generalize us 26 = u_26
        generalize us 27 = u_27
        generalize us 28 = u_28
        generalize us 29 = u_29
        generalize us 30 = u_30
        generalize us 31 = u_31
        generalize us 32 = u_32
        generalize us 33 = u_33
        have HN2 := NO
        clear NO
        go_wp2_with fail
        go_roundw
        case rel => exact ⟨i + 1, by have := HI.out; omega, by go_num, HN2.out, HBW.out.trans (HG.out.mono HBW.out.size)⟩
        case measure => have := HI.out; simp [intOf]; omega
    · by_cases h1 : xs = ks
      · have Q1 := Lib.hid (show (xs == ks) = true from beq_iff_eq.2 h1)
        have hc7 := HIT0.out (by rw [CL.out]; simp [h1])
        have HIT := Lib.hid (show nn = 0 ∧ er = 7 ∧ rg' = rg from ⟨(FAIL.out (by rw [hc7]; decide)).1, hc7, (FAIL.out (by rw [hc7]; decide)).2⟩)
        clear NO0 HIT0 CL hc7 h1
        go_upto_region 6 with fail
        clear cl
        refine with_act fun a0 ha0 => ?_
        have hl : abT.length = a0.tmps.size := by rw [ha0]; rfl
        have k0 : a0.tmps[0]?.getD undef = .pointer (some ⟨r, 0, none⟩) := by rw [ha0]; rfl
        have k3 : a0.tmps[3]?.getD undef = .pointer (some ⟨bx, 0, none⟩) := by rw [ha0]; rfl
        have k6 : a0.tmps[6]?.getD undef = .int .i64 i := by rw [ha0]; rfl
        refine wp_region_vals (by kernel_rfl) abT (by kernel_rfl) (by kernel_rfl) hl (fun i => a0.tmps[i + 19]?.getD undef) (by rw [ha0]; rfl) (Gr wr) (abV r b bx O m c i CX CK xs ks xr kr) (show Gr _ _ from (Below.refl _ _).drew) (abV.keep _ _ _ _ _ _ _ _ _ _ _ _ _) ⟨?_, ?_, ?_, ?_, ?_, ?_, ?_, ?_, ?_, ?_, ?_, ?_, ?_, ?_, ?_, ?_, ?_, ?_, ?_, ?_, ?_, ?_, ?_, ?_, ?_, ?_, ?_, ?_, ?_, ?_, ?_, ?_, ?_, ?_, ?_, trivial⟩ ?_
        · refine step_plain [] (by kernel_rfl) rfl fun us w' hG hV => ?_
          have o0 := (frame_old2 (us := us) (a := a0) (show (abT[0]?).join = none from rfl)).trans k0
          generalize frame abT a0 us = fr at *
          exact val_ok (v := .pointer (some ⟨r, 0, none⟩)) (w' := w') (by go_simp) hG (Below.refl _ _) rfl
        · refine step_plain [0] (by kernel_rfl) rfl fun us w' hG hV => ?_
          have e0 : us 0 = .pointer (some ⟨r, 0, none⟩) := hV 0 (by simp)
          have v0 := (frame_at2 (us := us) hl (show (abT[19]?).join = some 0 from rfl)).trans e0
          generalize frame abT a0 us = fr at *
          exact val_ok (v := .pointer (some ⟨r, 0, none⟩)) (w' := w') (by go_simp) hG (Below.refl _ _) rfl
        · refine step_plain [1] (by kernel_rfl) rfl fun us w' hG hV => ?_
          have e1 : us 1 = .pointer (some ⟨r, 0, none⟩) := hV 1 (by simp)
          have v1 := (frame_at2 (us := us) hl (show (abT[20]?).join = some 1 from rfl)).trans e1
          generalize frame abT a0 us = fr at *
          exact val_ok (v := .pointer (some ⟨r, 1, none⟩)) (w' := w') (by go_simp) hG (Below.refl _ _) rfl
        · refine step_plain [2] (by kernel_rfl) rfl fun us w' hG hV => ?_
          have e2 : us 2 = .pointer (some ⟨r, 1, none⟩) := hV 2 (by simp)
          have v2 := (frame_at2 (us := us) hl (show (abT[21]?).join = some 2 from rfl)).trans e2
          have hc := KL.out w' hG
          generalize frame abT a0 us = fr at *
          exact val_ok (v := .slice (some ⟨b, O, none⟩) m c) (w' := w') (by go_simp) hG (Below.refl _ _) rfl
        · refine step_plain [] (by kernel_rfl) rfl fun us w' hG hV => ?_
          have o6 := (frame_old2 (us := us) (a := a0) (show (abT[6]?).join = none from rfl)).trans k6
          generalize frame abT a0 us = fr at *
          exact val_ok (v := .int .i64 i) (w' := w') (by go_simp) hG (Below.refl _ _) rfl
        · refine step_plain [3, 4] (by kernel_rfl) rfl fun us w' hG hV => ?_
          have e3 : us 3 = .slice (some ⟨b, O, none⟩) m c := hV 3 (by simp)
          have v3 := (frame_at2 (us := us) hl (show (abT[22]?).join = some 3 from rfl)).trans e3
          have e4 : us 4 = .int .i64 i := hV 4 (by simp)
          have v4 := (frame_at2 (us := us) hl (show (abT[23]?).join = some 4 from rfl)).trans e4
          have hi := I1.out
          generalize frame abT a0 us = fr at *
          exact val_ok (v := .pointer (some ⟨b, O + i * 26, none⟩)) (w' := w') (by go_simp) hG (Below.refl _ _) rfl
        · refine step_plain [5] (by kernel_rfl) rfl fun us w' hG hV => ?_
          have e5 : us 5 = .pointer (some ⟨b, O + i * 26, none⟩) := hV 5 (by simp)
          have v5 := (frame_at2 (us := us) hl (show (abT[24]?).join = some 5 from rfl)).trans e5
          have hg1 := KC.out w' hG
          generalize frame abT a0 us = fr at *
          exact val_ok (v := .agg CX.toArray) (w' := w') (loadp_run (s := 24) rfl v5 CX _ hg1 Try.underlying41 rfl IX.out) hG (Below.refl _ _) rfl
        · refine step_plain [] (by kernel_rfl) rfl fun us w' hG hV => ?_
          have o3 := (frame_old2 (us := us) (a := a0) (show (abT[3]?).join = none from rfl)).trans k3
          have hg1 := (KP.out w' hG)
          generalize frame abT a0 us = fr at *
          exact load_ok 41 3 rfl (bx) o3 _ _ (0, 0) _ hg1 Try.underlying41 rfl IK.out hG rfl
        · refine step_plain [6, 7] (by kernel_rfl) rfl fun us w' hG hV => ?_
          have e6 : us 6 = .agg CX.toArray := hV 6 (by simp)
          have v6 := (frame_at2 (us := us) hl (show (abT[25]?).join = some 6 from rfl)).trans e6
          have e7 : us 7 = .agg CK := hV 7 (by simp)
          have v7 := (frame_at2 (us := us) hl (show (abT[26]?).join = some 7 from rfl)).trans e7
          generalize frame abT a0 us = fr at *
          exact call_ok (f := 36) (args := #[.agg CX.toArray, .agg CK]) (by go_simp) ((MT.out w').mono fun e w'' h => ⟨_, h.1, hG.below h.2, h.2, rfl⟩)
        · refine step_plain [8] (by kernel_rfl) rfl fun us w' hG hV => ?_
          have e8 : us 8 = .bool true := hV 8 (by simp)
          have v8 := (frame_at2 (us := us) hl (show (abT[27]?).join = some 8 from rfl)).trans e8
          generalize frame abT a0 us = fr at *
          exact val_ok (v := .bool true) (w' := w') (by go_simp) hG (Below.refl _ _) rfl
        · refine step_guard [9] (by kernel_rfl) (j := 9) (t := 28) (b := true) rfl (by simp) rfl hl rfl (fun v w h => h) fun us w' hG hV => ?_
          have o0 := (frame_old2 (us := us) (a := a0) (show (abT[0]?).join = none from rfl)).trans k0
          generalize frame abT a0 us = fr at *
          exact val_ok (v := .pointer (some ⟨r, 0, none⟩)) (w' := w') (by go_simp) hG (Below.refl _ _) rfl
        · refine step_guard [9, 10] (by kernel_rfl) (j := 9) (t := 28) (b := true) rfl (by simp) rfl hl rfl (fun v w h => h) fun us w' hG hV => ?_
          have e10 : us 10 = .pointer (some ⟨r, 0, none⟩) := hV 10 (by simp)
          have v10 := (frame_at2 (us := us) hl (show (abT[29]?).join = some 10 from rfl)).trans e10
          generalize frame abT a0 us = fr at *
          exact val_ok (v := .pointer (some ⟨r, 0, none⟩)) (w' := w') (by go_simp) hG (Below.refl _ _) rfl
        · refine step_guard [9, 11] (by kernel_rfl) (j := 9) (t := 28) (b := true) rfl (by simp) rfl hl rfl (fun v w h => h) fun us w' hG hV => ?_
          have e11 : us 11 = .pointer (some ⟨r, 0, none⟩) := hV 11 (by simp)
          have v11 := (frame_at2 (us := us) hl (show (abT[30]?).join = some 11 from rfl)).trans e11
          generalize frame abT a0 us = fr at *
          exact val_ok (v := .pointer (some ⟨r, 1, none⟩)) (w' := w') (by go_simp) hG (Below.refl _ _) rfl
        · refine step_guard [9, 12] (by kernel_rfl) (j := 9) (t := 28) (b := true) rfl (by simp) rfl hl rfl (fun v w h => h) fun us w' hG hV => ?_
          have e12 : us 12 = .pointer (some ⟨r, 1, none⟩) := hV 12 (by simp)
          have v12 := (frame_at2 (us := us) hl (show (abT[31]?).join = some 12 from rfl)).trans e12
          have hc := KL.out w' hG
          generalize frame abT a0 us = fr at *
          exact val_ok (v := .slice (some ⟨b, O, none⟩) m c) (w' := w') (by go_simp) hG (Below.refl _ _) rfl
        · refine step_guard [9] (by kernel_rfl) (j := 9) (t := 28) (b := true) rfl (by simp) rfl hl rfl (fun v w h => h) fun us w' hG hV => ?_
          have o6 := (frame_old2 (us := us) (a := a0) (show (abT[6]?).join = none from rfl)).trans k6
          generalize frame abT a0 us = fr at *
          exact val_ok (v := .int .i64 i) (w' := w') (by go_simp) hG (Below.refl _ _) rfl
        · refine step_guard [9, 13, 14] (by kernel_rfl) (j := 9) (t := 28) (b := true) rfl (by simp) rfl hl rfl (fun v w h => h) fun us w' hG hV => ?_
          have e13 : us 13 = .slice (some ⟨b, O, none⟩) m c := hV 13 (by simp)
          have v13 := (frame_at2 (us := us) hl (show (abT[32]?).join = some 13 from rfl)).trans e13
          have e14 : us 14 = .int .i64 i := hV 14 (by simp)
          have v14 := (frame_at2 (us := us) hl (show (abT[33]?).join = some 14 from rfl)).trans e14
          have hi := I1.out
          generalize frame abT a0 us = fr at *
          exact val_ok (v := .pointer (some ⟨b, O + i * 26, none⟩)) (w' := w') (by go_simp) hG (Below.refl _ _) rfl
        · refine step_guard [9, 15] (by kernel_rfl) (j := 9) (t := 28) (b := true) rfl (by simp) rfl hl rfl (fun v w h => h) fun us w' hG hV => ?_
          have e15 : us 15 = .pointer (some ⟨b, O + i * 26, none⟩) := hV 15 (by simp)
          have v15 := (frame_at2 (us := us) hl (show (abT[34]?).join = some 15 from rfl)).trans e15
          generalize frame abT a0 us = fr at *
          exact val_ok (v := .pointer (some ⟨b, O + i * 26 + 21, none⟩)) (w' := w') (by go_simp) hG (Below.refl _ _) rfl
        · refine step_guard [9, 16] (by kernel_rfl) (j := 9) (t := 28) (b := true) rfl (by simp) rfl hl rfl (fun v w h => h) fun us w' hG hV => ?_
          have e16 : us 16 = .pointer (some ⟨b, O + i * 26 + 21, none⟩) := hV 16 (by simp)
          have v16 := (frame_at2 (us := us) hl (show (abT[35]?).join = some 16 from rfl)).trans e16
          have hc := KS.out w' hG
          generalize frame abT a0 us = fr at *
          exact val_ok (v := .int .u8 xs) (w' := w') (by go_simp) hG (Below.refl _ _) rfl
        · refine step_guard [9] (by kernel_rfl) (j := 9) (t := 28) (b := true) rfl (by simp) rfl hl rfl (fun v w h => h) fun us w' hG hV => ?_
          have o3 := (frame_old2 (us := us) (a := a0) (show (abT[3]?).join = none from rfl)).trans k3
          generalize frame abT a0 us = fr at *
          exact val_ok (v := .pointer (some ⟨bx, 21, none⟩)) (w' := w') (by go_simp) hG (Below.refl _ _) rfl
        · refine step_guard [9, 18] (by kernel_rfl) (j := 9) (t := 28) (b := true) rfl (by simp) rfl hl rfl (fun v w h => h) fun us w' hG hV => ?_
          have e18 : us 18 = .pointer (some ⟨bx, 21, none⟩) := hV 18 (by simp)
          have v18 := (frame_at2 (us := us) hl (show (abT[37]?).join = some 18 from rfl)).trans e18
          have hc := PS.out w' hG
          generalize frame abT a0 us = fr at *
          exact val_ok (v := .int .u8 ks) (w' := w') (by go_simp) hG (Below.refl _ _) rfl
        · refine step_guard [9, 17, 19] (by kernel_rfl) (j := 9) (t := 28) (b := true) rfl (by simp) rfl hl rfl (fun v w h => h) fun us w' hG hV => ?_
          have e17 : us 17 = .int .u8 xs := hV 17 (by simp)
          have v17 := (frame_at2 (us := us) hl (show (abT[36]?).join = some 17 from rfl)).trans e17
          have e19 : us 19 = .int .u8 ks := hV 19 (by simp)
          have v19 := (frame_at2 (us := us) hl (show (abT[38]?).join = some 19 from rfl)).trans e19
          have hq := Q1.out
          generalize frame abT a0 us = fr at *
          exact val_ok (v := .bool true) (w' := w') (by go_simp) hG (Below.refl _ _) rfl
        · refine step_guard [9, 20] (by kernel_rfl) (j := 9) (t := 28) (b := true) rfl (by simp) rfl hl rfl (fun v w h => h) fun us w' hG hV => ?_
          have e20 : us 20 = .bool true := hV 20 (by simp)
          have v20 := (frame_at2 (us := us) hl (show (abT[39]?).join = some 20 from rfl)).trans e20
          generalize frame abT a0 us = fr at *
          exact val_ok (v := .bool true) (w' := w') (by go_simp) hG (Below.refl _ _) rfl
        · exact step_skip [21] (by kernel_rfl) (j := 21) (t := 40) (b := false) rfl (by simp) rfl hl rfl (fun v w h => .inl h) fun _ => rfl
        · exact step_skip [21] (by kernel_rfl) (j := 21) (t := 40) (b := false) rfl (by simp) rfl hl rfl (fun v w h => .inl h) fun _ => rfl
        · exact step_skip [21] (by kernel_rfl) (j := 21) (t := 40) (b := false) rfl (by simp) rfl hl rfl (fun v w h => .inl h) fun _ => rfl
        · exact step_skip [21] (by kernel_rfl) (j := 21) (t := 40) (b := false) rfl (by simp) rfl hl rfl (fun v w h => .inl h) fun _ => rfl
        · exact step_skip [21] (by kernel_rfl) (j := 21) (t := 40) (b := false) rfl (by simp) rfl hl rfl (fun v w h => .inl h) fun _ => rfl
        · exact step_skip [21] (by kernel_rfl) (j := 21) (t := 40) (b := false) rfl (by simp) rfl hl rfl (fun v w h => .inl h) fun _ => rfl
        · exact step_skip [21] (by kernel_rfl) (j := 21) (t := 40) (b := false) rfl (by simp) rfl hl rfl (fun v w h => .inl h) fun _ => rfl
        · exact step_skip [21] (by kernel_rfl) (j := 21) (t := 40) (b := false) rfl (by simp) rfl hl rfl (fun v w h => .inl h) fun _ => rfl
        · exact step_skip [21] (by kernel_rfl) (j := 21) (t := 40) (b := false) rfl (by simp) rfl hl rfl (fun v w h => .inl h) fun _ => rfl
        · exact step_skip [21] (by kernel_rfl) (j := 21) (t := 40) (b := false) rfl (by simp) rfl hl rfl (fun v w h => .inl h) fun _ => rfl
        · exact step_skip [21] (by kernel_rfl) (j := 21) (t := 40) (b := false) rfl (by simp) rfl hl rfl (fun v w h => .inl h) fun _ => rfl
        · refine step_guard [9, 21] (by kernel_rfl) (j := 9) (t := 28) (b := true) rfl (by simp) rfl hl rfl (fun v w h => h) fun us w' hG hV => ?_
          have e21 : us 21 = .bool true := hV 21 (by simp)
          have v21 := (frame_at2 (us := us) hl (show (abT[40]?).join = some 21 from rfl)).trans e21
          generalize frame abT a0 us = fr at *
          exact val_ok (v := .bool true) (w' := w') (by go_simp) hG (Below.refl _ _) rfl
        · refine step_plain [9, 33] (by kernel_rfl) rfl fun us w' hG hV => ?_
          have e9 : us 9 = .bool true := hV 9 (by simp)
          have v9 := (frame_at2 (us := us) hl (show (abT[28]?).join = some 9 from rfl)).trans e9
          have e33 : us 33 = .bool true := hV 33 (by simp)
          have v33 := (frame_at2 (us := us) hl (show (abT[52]?).join = some 33 from rfl)).trans e33
          generalize frame abT a0 us = fr at *
          exact val_ok (v := .bool true) (w' := w') (by go_simp) hG (Below.refl _ _) rfl
        · intro us wz hG hV
          have e34 : us 34 = .bool true := hV 34 (by decide)
          subst ha0
          simp only [frame, abT, fill]
          rw [e34]
          have HG := Lib.hid (show Below wr.heap.size wr wz from hG)
          have cl := KL.out wz hG
          clear hV hl hG e34
          generalize us 0 = u_0
          generalize us 1 = u_1
          generalize us 2 = u_2
          generalize us 3 = u_3
          generalize us 4 = u_4
          generalize us 5 = u_5
          generalize us 6 = u_6
          generalize us 7 = u_7
          generalize us 8 = u_8
          generalize us 9 = u_9
          generalize us 10 = u_10
          generalize us 11 = u_11
          generalize us 12 = u_12
          generalize us 13 = u_13
          generalize us 14 = u_14
          generalize us 15 = u_15
          generalize us 16 = u_16
          generalize us 17 = u_17
          generalize us 18 = u_18
          generalize us 19 = u_19
          generalize us 20 = u_20
          generalize us 21 = u_21
          generalize us 22 = u_22
          generalize us 23 = u_23
          generalize us 24 = u_24
          generalize us 25 = u_25
          generalize us 26 = u_26
          generalize us 27 = u_27
          generalize us 28 = u_28
          generalize us 29 = u_29
          generalize us 30 = u_30
          generalize us 31 = u_31
          generalize us 32 = u_32
          generalize us 33 = u_33
          go_wp2_with fail
          go_ret2
          exact ⟨by rw [HIT.out.1, HIT.out.2.1]; rfl, by rw [HIT.out.2.2]; exact ⟨_, m, c, es, HD2.out.below HG.out, HAP.out⟩, But.below (HB.out.trans ((HBW.out.trans (HG.out.mono HBW.out.size)).mono HB.out.size))⟩
      · have Q1 := Lib.hid (show (xs == ks) = false from beq_eq_false_iff_ne.2 h1)
        by_cases h2 : xr = kr
        · have Q2 := Lib.hid (show (xr == kr) = true from beq_iff_eq.2 h2)
          have hc7 := HIT0.out (by rw [CL.out]; simp [h1, h2])
          have HIT := Lib.hid (show nn = 0 ∧ er = 7 ∧ rg' = rg from ⟨(FAIL.out (by rw [hc7]; decide)).1, hc7, (FAIL.out (by rw [hc7]; decide)).2⟩)
          clear NO0 HIT0 CL hc7 h1 h2
          go_upto_region 6 with fail
          clear cl
          refine with_act fun a0 ha0 => ?_
          have hl : acT.length = a0.tmps.size := by rw [ha0]; rfl
          have k0 : a0.tmps[0]?.getD undef = .pointer (some ⟨r, 0, none⟩) := by rw [ha0]; rfl
          have k3 : a0.tmps[3]?.getD undef = .pointer (some ⟨bx, 0, none⟩) := by rw [ha0]; rfl
          have k6 : a0.tmps[6]?.getD undef = .int .i64 i := by rw [ha0]; rfl
          refine wp_region_vals (by kernel_rfl) acT (by kernel_rfl) (by kernel_rfl) hl (fun i => a0.tmps[i + 19]?.getD undef) (by rw [ha0]; rfl) (Gr wr) (acV r b bx O m c i CX CK xs ks xr kr) (show Gr _ _ from (Below.refl _ _).drew) (acV.keep _ _ _ _ _ _ _ _ _ _ _ _ _) ⟨?_, ?_, ?_, ?_, ?_, ?_, ?_, ?_, ?_, ?_, ?_, ?_, ?_, ?_, ?_, ?_, ?_, ?_, ?_, ?_, ?_, ?_, ?_, ?_, ?_, ?_, ?_, ?_, ?_, ?_, ?_, ?_, ?_, ?_, ?_, trivial⟩ ?_
          · refine step_plain [] (by kernel_rfl) rfl fun us w' hG hV => ?_
            have o0 := (frame_old2 (us := us) (a := a0) (show (acT[0]?).join = none from rfl)).trans k0
            generalize frame acT a0 us = fr at *
            exact val_ok (v := .pointer (some ⟨r, 0, none⟩)) (w' := w') (by go_simp) hG (Below.refl _ _) rfl
          · refine step_plain [0] (by kernel_rfl) rfl fun us w' hG hV => ?_
            have e0 : us 0 = .pointer (some ⟨r, 0, none⟩) := hV 0 (by simp)
            have v0 := (frame_at2 (us := us) hl (show (acT[19]?).join = some 0 from rfl)).trans e0
            generalize frame acT a0 us = fr at *
            exact val_ok (v := .pointer (some ⟨r, 0, none⟩)) (w' := w') (by go_simp) hG (Below.refl _ _) rfl
          · refine step_plain [1] (by kernel_rfl) rfl fun us w' hG hV => ?_
            have e1 : us 1 = .pointer (some ⟨r, 0, none⟩) := hV 1 (by simp)
            have v1 := (frame_at2 (us := us) hl (show (acT[20]?).join = some 1 from rfl)).trans e1
            generalize frame acT a0 us = fr at *
            exact val_ok (v := .pointer (some ⟨r, 1, none⟩)) (w' := w') (by go_simp) hG (Below.refl _ _) rfl
          · refine step_plain [2] (by kernel_rfl) rfl fun us w' hG hV => ?_
            have e2 : us 2 = .pointer (some ⟨r, 1, none⟩) := hV 2 (by simp)
            have v2 := (frame_at2 (us := us) hl (show (acT[21]?).join = some 2 from rfl)).trans e2
            have hc := KL.out w' hG
            generalize frame acT a0 us = fr at *
            exact val_ok (v := .slice (some ⟨b, O, none⟩) m c) (w' := w') (by go_simp) hG (Below.refl _ _) rfl
          · refine step_plain [] (by kernel_rfl) rfl fun us w' hG hV => ?_
            have o6 := (frame_old2 (us := us) (a := a0) (show (acT[6]?).join = none from rfl)).trans k6
            generalize frame acT a0 us = fr at *
            exact val_ok (v := .int .i64 i) (w' := w') (by go_simp) hG (Below.refl _ _) rfl
          · refine step_plain [3, 4] (by kernel_rfl) rfl fun us w' hG hV => ?_
            have e3 : us 3 = .slice (some ⟨b, O, none⟩) m c := hV 3 (by simp)
            have v3 := (frame_at2 (us := us) hl (show (acT[22]?).join = some 3 from rfl)).trans e3
            have e4 : us 4 = .int .i64 i := hV 4 (by simp)
            have v4 := (frame_at2 (us := us) hl (show (acT[23]?).join = some 4 from rfl)).trans e4
            have hi := I1.out
            generalize frame acT a0 us = fr at *
            exact val_ok (v := .pointer (some ⟨b, O + i * 26, none⟩)) (w' := w') (by go_simp) hG (Below.refl _ _) rfl
          · refine step_plain [5] (by kernel_rfl) rfl fun us w' hG hV => ?_
            have e5 : us 5 = .pointer (some ⟨b, O + i * 26, none⟩) := hV 5 (by simp)
            have v5 := (frame_at2 (us := us) hl (show (acT[24]?).join = some 5 from rfl)).trans e5
            have hg1 := KC.out w' hG
            generalize frame acT a0 us = fr at *
            exact val_ok (v := .agg CX.toArray) (w' := w') (loadp_run (s := 24) rfl v5 CX _ hg1 Try.underlying41 rfl IX.out) hG (Below.refl _ _) rfl
          · refine step_plain [] (by kernel_rfl) rfl fun us w' hG hV => ?_
            have o3 := (frame_old2 (us := us) (a := a0) (show (acT[3]?).join = none from rfl)).trans k3
            have hg1 := (KP.out w' hG)
            generalize frame acT a0 us = fr at *
            exact load_ok 41 3 rfl (bx) o3 _ _ (0, 0) _ hg1 Try.underlying41 rfl IK.out hG rfl
          · refine step_plain [6, 7] (by kernel_rfl) rfl fun us w' hG hV => ?_
            have e6 : us 6 = .agg CX.toArray := hV 6 (by simp)
            have v6 := (frame_at2 (us := us) hl (show (acT[25]?).join = some 6 from rfl)).trans e6
            have e7 : us 7 = .agg CK := hV 7 (by simp)
            have v7 := (frame_at2 (us := us) hl (show (acT[26]?).join = some 7 from rfl)).trans e7
            generalize frame acT a0 us = fr at *
            exact call_ok (f := 36) (args := #[.agg CX.toArray, .agg CK]) (by go_simp) ((MT.out w').mono fun e w'' h => ⟨_, h.1, hG.below h.2, h.2, rfl⟩)
          · refine step_plain [8] (by kernel_rfl) rfl fun us w' hG hV => ?_
            have e8 : us 8 = .bool true := hV 8 (by simp)
            have v8 := (frame_at2 (us := us) hl (show (acT[27]?).join = some 8 from rfl)).trans e8
            generalize frame acT a0 us = fr at *
            exact val_ok (v := .bool true) (w' := w') (by go_simp) hG (Below.refl _ _) rfl
          · refine step_guard [9] (by kernel_rfl) (j := 9) (t := 28) (b := true) rfl (by simp) rfl hl rfl (fun v w h => h) fun us w' hG hV => ?_
            have o0 := (frame_old2 (us := us) (a := a0) (show (acT[0]?).join = none from rfl)).trans k0
            generalize frame acT a0 us = fr at *
            exact val_ok (v := .pointer (some ⟨r, 0, none⟩)) (w' := w') (by go_simp) hG (Below.refl _ _) rfl
          · refine step_guard [9, 10] (by kernel_rfl) (j := 9) (t := 28) (b := true) rfl (by simp) rfl hl rfl (fun v w h => h) fun us w' hG hV => ?_
            have e10 : us 10 = .pointer (some ⟨r, 0, none⟩) := hV 10 (by simp)
            have v10 := (frame_at2 (us := us) hl (show (acT[29]?).join = some 10 from rfl)).trans e10
            generalize frame acT a0 us = fr at *
            exact val_ok (v := .pointer (some ⟨r, 0, none⟩)) (w' := w') (by go_simp) hG (Below.refl _ _) rfl
          · refine step_guard [9, 11] (by kernel_rfl) (j := 9) (t := 28) (b := true) rfl (by simp) rfl hl rfl (fun v w h => h) fun us w' hG hV => ?_
            have e11 : us 11 = .pointer (some ⟨r, 0, none⟩) := hV 11 (by simp)
            have v11 := (frame_at2 (us := us) hl (show (acT[30]?).join = some 11 from rfl)).trans e11
            generalize frame acT a0 us = fr at *
            exact val_ok (v := .pointer (some ⟨r, 1, none⟩)) (w' := w') (by go_simp) hG (Below.refl _ _) rfl
          · refine step_guard [9, 12] (by kernel_rfl) (j := 9) (t := 28) (b := true) rfl (by simp) rfl hl rfl (fun v w h => h) fun us w' hG hV => ?_
            have e12 : us 12 = .pointer (some ⟨r, 1, none⟩) := hV 12 (by simp)
            have v12 := (frame_at2 (us := us) hl (show (acT[31]?).join = some 12 from rfl)).trans e12
            have hc := KL.out w' hG
            generalize frame acT a0 us = fr at *
            exact val_ok (v := .slice (some ⟨b, O, none⟩) m c) (w' := w') (by go_simp) hG (Below.refl _ _) rfl
          · refine step_guard [9] (by kernel_rfl) (j := 9) (t := 28) (b := true) rfl (by simp) rfl hl rfl (fun v w h => h) fun us w' hG hV => ?_
            have o6 := (frame_old2 (us := us) (a := a0) (show (acT[6]?).join = none from rfl)).trans k6
            generalize frame acT a0 us = fr at *
            exact val_ok (v := .int .i64 i) (w' := w') (by go_simp) hG (Below.refl _ _) rfl
          · refine step_guard [9, 13, 14] (by kernel_rfl) (j := 9) (t := 28) (b := true) rfl (by simp) rfl hl rfl (fun v w h => h) fun us w' hG hV => ?_
            have e13 : us 13 = .slice (some ⟨b, O, none⟩) m c := hV 13 (by simp)
            have v13 := (frame_at2 (us := us) hl (show (acT[32]?).join = some 13 from rfl)).trans e13
            have e14 : us 14 = .int .i64 i := hV 14 (by simp)
            have v14 := (frame_at2 (us := us) hl (show (acT[33]?).join = some 14 from rfl)).trans e14
            have hi := I1.out
            generalize frame acT a0 us = fr at *
            exact val_ok (v := .pointer (some ⟨b, O + i * 26, none⟩)) (w' := w') (by go_simp) hG (Below.refl _ _) rfl
          · refine step_guard [9, 15] (by kernel_rfl) (j := 9) (t := 28) (b := true) rfl (by simp) rfl hl rfl (fun v w h => h) fun us w' hG hV => ?_
            have e15 : us 15 = .pointer (some ⟨b, O + i * 26, none⟩) := hV 15 (by simp)
            have v15 := (frame_at2 (us := us) hl (show (acT[34]?).join = some 15 from rfl)).trans e15
            generalize frame acT a0 us = fr at *
            exact val_ok (v := .pointer (some ⟨b, O + i * 26 + 21, none⟩)) (w' := w') (by go_simp) hG (Below.refl _ _) rfl
          · refine step_guard [9, 16] (by kernel_rfl) (j := 9) (t := 28) (b := true) rfl (by simp) rfl hl rfl (fun v w h => h) fun us w' hG hV => ?_
            have e16 : us 16 = .pointer (some ⟨b, O + i * 26 + 21, none⟩) := hV 16 (by simp)
            have v16 := (frame_at2 (us := us) hl (show (acT[35]?).join = some 16 from rfl)).trans e16
            have hc := KS.out w' hG
            generalize frame acT a0 us = fr at *
            exact val_ok (v := .int .u8 xs) (w' := w') (by go_simp) hG (Below.refl _ _) rfl
          · refine step_guard [9] (by kernel_rfl) (j := 9) (t := 28) (b := true) rfl (by simp) rfl hl rfl (fun v w h => h) fun us w' hG hV => ?_
            have o3 := (frame_old2 (us := us) (a := a0) (show (acT[3]?).join = none from rfl)).trans k3
            generalize frame acT a0 us = fr at *
            exact val_ok (v := .pointer (some ⟨bx, 21, none⟩)) (w' := w') (by go_simp) hG (Below.refl _ _) rfl
          · refine step_guard [9, 18] (by kernel_rfl) (j := 9) (t := 28) (b := true) rfl (by simp) rfl hl rfl (fun v w h => h) fun us w' hG hV => ?_
            have e18 : us 18 = .pointer (some ⟨bx, 21, none⟩) := hV 18 (by simp)
            have v18 := (frame_at2 (us := us) hl (show (acT[37]?).join = some 18 from rfl)).trans e18
            have hc := PS.out w' hG
            generalize frame acT a0 us = fr at *
            exact val_ok (v := .int .u8 ks) (w' := w') (by go_simp) hG (Below.refl _ _) rfl
          · refine step_guard [9, 17, 19] (by kernel_rfl) (j := 9) (t := 28) (b := true) rfl (by simp) rfl hl rfl (fun v w h => h) fun us w' hG hV => ?_
            have e17 : us 17 = .int .u8 xs := hV 17 (by simp)
            have v17 := (frame_at2 (us := us) hl (show (acT[36]?).join = some 17 from rfl)).trans e17
            have e19 : us 19 = .int .u8 ks := hV 19 (by simp)
            have v19 := (frame_at2 (us := us) hl (show (acT[38]?).join = some 19 from rfl)).trans e19
            have hq := Q1.out
            generalize frame acT a0 us = fr at *
            exact val_ok (v := .bool false) (w' := w') (by go_simp) hG (Below.refl _ _) rfl
          · refine step_guard [9, 20] (by kernel_rfl) (j := 9) (t := 28) (b := true) rfl (by simp) rfl hl rfl (fun v w h => h) fun us w' hG hV => ?_
            have e20 : us 20 = .bool false := hV 20 (by simp)
            have v20 := (frame_at2 (us := us) hl (show (acT[39]?).join = some 20 from rfl)).trans e20
            generalize frame acT a0 us = fr at *
            exact val_ok (v := .bool false) (w' := w') (by go_simp) hG (Below.refl _ _) rfl
          · refine step_guard [21] (by kernel_rfl) (j := 21) (t := 40) (b := false) rfl (by simp) rfl hl rfl (fun v w h => h) fun us w' hG hV => ?_
            have o0 := (frame_old2 (us := us) (a := a0) (show (acT[0]?).join = none from rfl)).trans k0
            generalize frame acT a0 us = fr at *
            exact val_ok (v := .pointer (some ⟨r, 0, none⟩)) (w' := w') (by go_simp) hG (Below.refl _ _) rfl
          · refine step_guard [21, 22] (by kernel_rfl) (j := 21) (t := 40) (b := false) rfl (by simp) rfl hl rfl (fun v w h => h) fun us w' hG hV => ?_
            have e22 : us 22 = .pointer (some ⟨r, 0, none⟩) := hV 22 (by simp)
            have v22 := (frame_at2 (us := us) hl (show (acT[41]?).join = some 22 from rfl)).trans e22
            generalize frame acT a0 us = fr at *
            exact val_ok (v := .pointer (some ⟨r, 0, none⟩)) (w' := w') (by go_simp) hG (Below.refl _ _) rfl
          · refine step_guard [21, 23] (by kernel_rfl) (j := 21) (t := 40) (b := false) rfl (by simp) rfl hl rfl (fun v w h => h) fun us w' hG hV => ?_
            have e23 : us 23 = .pointer (some ⟨r, 0, none⟩) := hV 23 (by simp)
            have v23 := (frame_at2 (us := us) hl (show (acT[42]?).join = some 23 from rfl)).trans e23
            generalize frame acT a0 us = fr at *
            exact val_ok (v := .pointer (some ⟨r, 1, none⟩)) (w' := w') (by go_simp) hG (Below.refl _ _) rfl
          · refine step_guard [21, 24] (by kernel_rfl) (j := 21) (t := 40) (b := false) rfl (by simp) rfl hl rfl (fun v w h => h) fun us w' hG hV => ?_
            have e24 : us 24 = .pointer (some ⟨r, 1, none⟩) := hV 24 (by simp)
            have v24 := (frame_at2 (us := us) hl (show (acT[43]?).join = some 24 from rfl)).trans e24
            have hc := KL.out w' hG
            generalize frame acT a0 us = fr at *
            exact val_ok (v := .slice (some ⟨b, O, none⟩) m c) (w' := w') (by go_simp) hG (Below.refl _ _) rfl
          · refine step_guard [21] (by kernel_rfl) (j := 21) (t := 40) (b := false) rfl (by simp) rfl hl rfl (fun v w h => h) fun us w' hG hV => ?_
            have o6 := (frame_old2 (us := us) (a := a0) (show (acT[6]?).join = none from rfl)).trans k6
            generalize frame acT a0 us = fr at *
            exact val_ok (v := .int .i64 i) (w' := w') (by go_simp) hG (Below.refl _ _) rfl
          · refine step_guard [21, 25, 26] (by kernel_rfl) (j := 21) (t := 40) (b := false) rfl (by simp) rfl hl rfl (fun v w h => h) fun us w' hG hV => ?_
            have e25 : us 25 = .slice (some ⟨b, O, none⟩) m c := hV 25 (by simp)
            have v25 := (frame_at2 (us := us) hl (show (acT[44]?).join = some 25 from rfl)).trans e25
            have e26 : us 26 = .int .i64 i := hV 26 (by simp)
            have v26 := (frame_at2 (us := us) hl (show (acT[45]?).join = some 26 from rfl)).trans e26
            have hi := I1.out
            generalize frame acT a0 us = fr at *
            exact val_ok (v := .pointer (some ⟨b, O + i * 26, none⟩)) (w' := w') (by go_simp) hG (Below.refl _ _) rfl
          · refine step_guard [21, 27] (by kernel_rfl) (j := 21) (t := 40) (b := false) rfl (by simp) rfl hl rfl (fun v w h => h) fun us w' hG hV => ?_
            have e27 : us 27 = .pointer (some ⟨b, O + i * 26, none⟩) := hV 27 (by simp)
            have v27 := (frame_at2 (us := us) hl (show (acT[46]?).join = some 27 from rfl)).trans e27
            generalize frame acT a0 us = fr at *
            exact val_ok (v := .pointer (some ⟨b, O + i * 26 + 22, none⟩)) (w' := w') (by go_simp) hG (Below.refl _ _) rfl
          · refine step_guard [21, 28] (by kernel_rfl) (j := 21) (t := 40) (b := false) rfl (by simp) rfl hl rfl (fun v w h => h) fun us w' hG hV => ?_
            have e28 : us 28 = .pointer (some ⟨b, O + i * 26 + 22, none⟩) := hV 28 (by simp)
            have v28 := (frame_at2 (us := us) hl (show (acT[47]?).join = some 28 from rfl)).trans e28
            have hc := KRr.out w' hG
            generalize frame acT a0 us = fr at *
            exact val_ok (v := .int .u8 xr) (w' := w') (by go_simp) hG (Below.refl _ _) rfl
          · refine step_guard [21] (by kernel_rfl) (j := 21) (t := 40) (b := false) rfl (by simp) rfl hl rfl (fun v w h => h) fun us w' hG hV => ?_
            have o3 := (frame_old2 (us := us) (a := a0) (show (acT[3]?).join = none from rfl)).trans k3
            generalize frame acT a0 us = fr at *
            exact val_ok (v := .pointer (some ⟨bx, 22, none⟩)) (w' := w') (by go_simp) hG (Below.refl _ _) rfl
          · refine step_guard [21, 30] (by kernel_rfl) (j := 21) (t := 40) (b := false) rfl (by simp) rfl hl rfl (fun v w h => h) fun us w' hG hV => ?_
            have e30 : us 30 = .pointer (some ⟨bx, 22, none⟩) := hV 30 (by simp)
            have v30 := (frame_at2 (us := us) hl (show (acT[49]?).join = some 30 from rfl)).trans e30
            have hc := PR.out w' hG
            generalize frame acT a0 us = fr at *
            exact val_ok (v := .int .u8 kr) (w' := w') (by go_simp) hG (Below.refl _ _) rfl
          · refine step_guard [21, 29, 31] (by kernel_rfl) (j := 21) (t := 40) (b := false) rfl (by simp) rfl hl rfl (fun v w h => h) fun us w' hG hV => ?_
            have e29 : us 29 = .int .u8 xr := hV 29 (by simp)
            have v29 := (frame_at2 (us := us) hl (show (acT[48]?).join = some 29 from rfl)).trans e29
            have e31 : us 31 = .int .u8 kr := hV 31 (by simp)
            have v31 := (frame_at2 (us := us) hl (show (acT[50]?).join = some 31 from rfl)).trans e31
            have hq := Q2.out
            generalize frame acT a0 us = fr at *
            exact val_ok (v := .bool true) (w' := w') (by go_simp) hG (Below.refl _ _) rfl
          · refine step_guard [9, 21, 32] (by kernel_rfl) (j := 9) (t := 28) (b := true) rfl (by simp) rfl hl rfl (fun v w h => h) fun us w' hG hV => ?_
            have e21 : us 21 = .bool false := hV 21 (by simp)
            have v21 := (frame_at2 (us := us) hl (show (acT[40]?).join = some 21 from rfl)).trans e21
            have e32 : us 32 = .bool true := hV 32 (by simp)
            have v32 := (frame_at2 (us := us) hl (show (acT[51]?).join = some 32 from rfl)).trans e32
            generalize frame acT a0 us = fr at *
            exact val_ok (v := .bool true) (w' := w') (by go_simp) hG (Below.refl _ _) rfl
          · refine step_plain [9, 33] (by kernel_rfl) rfl fun us w' hG hV => ?_
            have e9 : us 9 = .bool true := hV 9 (by simp)
            have v9 := (frame_at2 (us := us) hl (show (acT[28]?).join = some 9 from rfl)).trans e9
            have e33 : us 33 = .bool true := hV 33 (by simp)
            have v33 := (frame_at2 (us := us) hl (show (acT[52]?).join = some 33 from rfl)).trans e33
            generalize frame acT a0 us = fr at *
            exact val_ok (v := .bool true) (w' := w') (by go_simp) hG (Below.refl _ _) rfl
          · intro us wz hG hV
            have e34 : us 34 = .bool true := hV 34 (by decide)
            subst ha0
            simp only [frame, acT, fill]
            rw [e34]
            have HG := Lib.hid (show Below wr.heap.size wr wz from hG)
            have cl := KL.out wz hG
            clear hV hl hG e34
            generalize us 0 = u_0
            generalize us 1 = u_1
            generalize us 2 = u_2
            generalize us 3 = u_3
            generalize us 4 = u_4
            generalize us 5 = u_5
            generalize us 6 = u_6
            generalize us 7 = u_7
            generalize us 8 = u_8
            generalize us 9 = u_9
            generalize us 10 = u_10
            generalize us 11 = u_11
            generalize us 12 = u_12
            generalize us 13 = u_13
            generalize us 14 = u_14
            generalize us 15 = u_15
            generalize us 16 = u_16
            generalize us 17 = u_17
            generalize us 18 = u_18
            generalize us 19 = u_19
            generalize us 20 = u_20
            generalize us 21 = u_21
            generalize us 22 = u_22
            generalize us 23 = u_23
            generalize us 24 = u_24
            generalize us 25 = u_25
            generalize us 26 = u_26
            generalize us 27 = u_27
            generalize us 28 = u_28
            generalize us 29 = u_29
            generalize us 30 = u_30
            generalize us 31 = u_31
            generalize us 32 = u_32
            generalize us 33 = u_33
            go_wp2_with fail
            go_ret2
            exact ⟨by rw [HIT.out.1, HIT.out.2.1]; rfl, by rw [HIT.out.2.2]; exact ⟨_, m, c, es, HD2.out.below HG.out, HAP.out⟩, But.below (HB.out.trans ((HBW.out.trans (HG.out.mono HBW.out.size)).mono HB.out.size))⟩
        · have Q2 := Lib.hid (show (xr == kr) = false from beq_eq_false_iff_ne.2 h2)
          have NO := Lib.hid (NO0.out (by show clash e.val kp = false; rw [CL.out]; simp [h1, h2]))
          clear NO0 HIT0 CL h1 h2
          go_upto_region 6 with fail
          clear cl
          refine with_act fun a0 ha0 => ?_
          have hl : adT.length = a0.tmps.size := by rw [ha0]; rfl
          have k0 : a0.tmps[0]?.getD undef = .pointer (some ⟨r, 0, none⟩) := by rw [ha0]; rfl
          have k3 : a0.tmps[3]?.getD undef = .pointer (some ⟨bx, 0, none⟩) := by rw [ha0]; rfl
          have k6 : a0.tmps[6]?.getD undef = .int .i64 i := by rw [ha0]; rfl
          refine wp_region_vals (by kernel_rfl) adT (by kernel_rfl) (by kernel_rfl) hl (fun i => a0.tmps[i + 19]?.getD undef) (by rw [ha0]; rfl) (Gr wr) (adV r b bx O m c i CX CK xs ks xr kr) (show Gr _ _ from (Below.refl _ _).drew) (adV.keep _ _ _ _ _ _ _ _ _ _ _ _ _) ⟨?_, ?_, ?_, ?_, ?_, ?_, ?_, ?_, ?_, ?_, ?_, ?_, ?_, ?_, ?_, ?_, ?_, ?_, ?_, ?_, ?_, ?_, ?_, ?_, ?_, ?_, ?_, ?_, ?_, ?_, ?_, ?_, ?_, ?_, ?_, trivial⟩ ?_
          · refine step_plain [] (by kernel_rfl) rfl fun us w' hG hV => ?_
            have o0 := (frame_old2 (us := us) (a := a0) (show (adT[0]?).join = none from rfl)).trans k0
            generalize frame adT a0 us = fr at *
            exact val_ok (v := .pointer (some ⟨r, 0, none⟩)) (w' := w') (by go_simp) hG (Below.refl _ _) rfl
          · refine step_plain [0] (by kernel_rfl) rfl fun us w' hG hV => ?_
            have e0 : us 0 = .pointer (some ⟨r, 0, none⟩) := hV 0 (by simp)
            have v0 := (frame_at2 (us := us) hl (show (adT[19]?).join = some 0 from rfl)).trans e0
            generalize frame adT a0 us = fr at *
            exact val_ok (v := .pointer (some ⟨r, 0, none⟩)) (w' := w') (by go_simp) hG (Below.refl _ _) rfl
          · refine step_plain [1] (by kernel_rfl) rfl fun us w' hG hV => ?_
            have e1 : us 1 = .pointer (some ⟨r, 0, none⟩) := hV 1 (by simp)
            have v1 := (frame_at2 (us := us) hl (show (adT[20]?).join = some 1 from rfl)).trans e1
            generalize frame adT a0 us = fr at *
            exact val_ok (v := .pointer (some ⟨r, 1, none⟩)) (w' := w') (by go_simp) hG (Below.refl _ _) rfl
          · refine step_plain [2] (by kernel_rfl) rfl fun us w' hG hV => ?_
            have e2 : us 2 = .pointer (some ⟨r, 1, none⟩) := hV 2 (by simp)
            have v2 := (frame_at2 (us := us) hl (show (adT[21]?).join = some 2 from rfl)).trans e2
            have hc := KL.out w' hG
            generalize frame adT a0 us = fr at *
            exact val_ok (v := .slice (some ⟨b, O, none⟩) m c) (w' := w') (by go_simp) hG (Below.refl _ _) rfl
          · refine step_plain [] (by kernel_rfl) rfl fun us w' hG hV => ?_
            have o6 := (frame_old2 (us := us) (a := a0) (show (adT[6]?).join = none from rfl)).trans k6
            generalize frame adT a0 us = fr at *
            exact val_ok (v := .int .i64 i) (w' := w') (by go_simp) hG (Below.refl _ _) rfl
          · refine step_plain [3, 4] (by kernel_rfl) rfl fun us w' hG hV => ?_
            have e3 : us 3 = .slice (some ⟨b, O, none⟩) m c := hV 3 (by simp)
            have v3 := (frame_at2 (us := us) hl (show (adT[22]?).join = some 3 from rfl)).trans e3
            have e4 : us 4 = .int .i64 i := hV 4 (by simp)
            have v4 := (frame_at2 (us := us) hl (show (adT[23]?).join = some 4 from rfl)).trans e4
            have hi := I1.out
            generalize frame adT a0 us = fr at *
            exact val_ok (v := .pointer (some ⟨b, O + i * 26, none⟩)) (w' := w') (by go_simp) hG (Below.refl _ _) rfl
          · refine step_plain [5] (by kernel_rfl) rfl fun us w' hG hV => ?_
            have e5 : us 5 = .pointer (some ⟨b, O + i * 26, none⟩) := hV 5 (by simp)
            have v5 := (frame_at2 (us := us) hl (show (adT[24]?).join = some 5 from rfl)).trans e5
            have hg1 := KC.out w' hG
            generalize frame adT a0 us = fr at *
            exact val_ok (v := .agg CX.toArray) (w' := w') (loadp_run (s := 24) rfl v5 CX _ hg1 Try.underlying41 rfl IX.out) hG (Below.refl _ _) rfl
          · refine step_plain [] (by kernel_rfl) rfl fun us w' hG hV => ?_
            have o3 := (frame_old2 (us := us) (a := a0) (show (adT[3]?).join = none from rfl)).trans k3
            have hg1 := (KP.out w' hG)
            generalize frame adT a0 us = fr at *
            exact load_ok 41 3 rfl (bx) o3 _ _ (0, 0) _ hg1 Try.underlying41 rfl IK.out hG rfl
          · refine step_plain [6, 7] (by kernel_rfl) rfl fun us w' hG hV => ?_
            have e6 : us 6 = .agg CX.toArray := hV 6 (by simp)
            have v6 := (frame_at2 (us := us) hl (show (adT[25]?).join = some 6 from rfl)).trans e6
            have e7 : us 7 = .agg CK := hV 7 (by simp)
            have v7 := (frame_at2 (us := us) hl (show (adT[26]?).join = some 7 from rfl)).trans e7
            generalize frame adT a0 us = fr at *
            exact call_ok (f := 36) (args := #[.agg CX.toArray, .agg CK]) (by go_simp) ((MT.out w').mono fun e w'' h => ⟨_, h.1, hG.below h.2, h.2, rfl⟩)
          · refine step_plain [8] (by kernel_rfl) rfl fun us w' hG hV => ?_
            have e8 : us 8 = .bool true := hV 8 (by simp)
            have v8 := (frame_at2 (us := us) hl (show (adT[27]?).join = some 8 from rfl)).trans e8
            generalize frame adT a0 us = fr at *
            exact val_ok (v := .bool true) (w' := w') (by go_simp) hG (Below.refl _ _) rfl
          · refine step_guard [9] (by kernel_rfl) (j := 9) (t := 28) (b := true) rfl (by simp) rfl hl rfl (fun v w h => h) fun us w' hG hV => ?_
            have o0 := (frame_old2 (us := us) (a := a0) (show (adT[0]?).join = none from rfl)).trans k0
            generalize frame adT a0 us = fr at *
            exact val_ok (v := .pointer (some ⟨r, 0, none⟩)) (w' := w') (by go_simp) hG (Below.refl _ _) rfl
          · refine step_guard [9, 10] (by kernel_rfl) (j := 9) (t := 28) (b := true) rfl (by simp) rfl hl rfl (fun v w h => h) fun us w' hG hV => ?_
            have e10 : us 10 = .pointer (some ⟨r, 0, none⟩) := hV 10 (by simp)
            have v10 := (frame_at2 (us := us) hl (show (adT[29]?).join = some 10 from rfl)).trans e10
            generalize frame adT a0 us = fr at *
            exact val_ok (v := .pointer (some ⟨r, 0, none⟩)) (w' := w') (by go_simp) hG (Below.refl _ _) rfl
          · refine step_guard [9, 11] (by kernel_rfl) (j := 9) (t := 28) (b := true) rfl (by simp) rfl hl rfl (fun v w h => h) fun us w' hG hV => ?_
            have e11 : us 11 = .pointer (some ⟨r, 0, none⟩) := hV 11 (by simp)
            have v11 := (frame_at2 (us := us) hl (show (adT[30]?).join = some 11 from rfl)).trans e11
            generalize frame adT a0 us = fr at *
            exact val_ok (v := .pointer (some ⟨r, 1, none⟩)) (w' := w') (by go_simp) hG (Below.refl _ _) rfl
          · refine step_guard [9, 12] (by kernel_rfl) (j := 9) (t := 28) (b := true) rfl (by simp) rfl hl rfl (fun v w h => h) fun us w' hG hV => ?_
            have e12 : us 12 = .pointer (some ⟨r, 1, none⟩) := hV 12 (by simp)
            have v12 := (frame_at2 (us := us) hl (show (adT[31]?).join = some 12 from rfl)).trans e12
            have hc := KL.out w' hG
            generalize frame adT a0 us = fr at *
            exact val_ok (v := .slice (some ⟨b, O, none⟩) m c) (w' := w') (by go_simp) hG (Below.refl _ _) rfl
          · refine step_guard [9] (by kernel_rfl) (j := 9) (t := 28) (b := true) rfl (by simp) rfl hl rfl (fun v w h => h) fun us w' hG hV => ?_
            have o6 := (frame_old2 (us := us) (a := a0) (show (adT[6]?).join = none from rfl)).trans k6
            generalize frame adT a0 us = fr at *
            exact val_ok (v := .int .i64 i) (w' := w') (by go_simp) hG (Below.refl _ _) rfl
          · refine step_guard [9, 13, 14] (by kernel_rfl) (j := 9) (t := 28) (b := true) rfl (by simp) rfl hl rfl (fun v w h => h) fun us w' hG hV => ?_
            have e13 : us 13 = .slice (some ⟨b, O, none⟩) m c := hV 13 (by simp)
            have v13 := (frame_at2 (us := us) hl (show (adT[32]?).join = some 13 from rfl)).trans e13
            have e14 : us 14 = .int .i64 i := hV 14 (by simp)
            have v14 := (frame_at2 (us := us) hl (show (adT[33]?).join = some 14 from rfl)).trans e14
            have hi := I1.out
            generalize frame adT a0 us = fr at *
            exact val_ok (v := .pointer (some ⟨b, O + i * 26, none⟩)) (w' := w') (by go_simp) hG (Below.refl _ _) rfl
          · refine step_guard [9, 15] (by kernel_rfl) (j := 9) (t := 28) (b := true) rfl (by simp) rfl hl rfl (fun v w h => h) fun us w' hG hV => ?_
            have e15 : us 15 = .pointer (some ⟨b, O + i * 26, none⟩) := hV 15 (by simp)
            have v15 := (frame_at2 (us := us) hl (show (adT[34]?).join = some 15 from rfl)).trans e15
            generalize frame adT a0 us = fr at *
            exact val_ok (v := .pointer (some ⟨b, O + i * 26 + 21, none⟩)) (w' := w') (by go_simp) hG (Below.refl _ _) rfl
          · refine step_guard [9, 16] (by kernel_rfl) (j := 9) (t := 28) (b := true) rfl (by simp) rfl hl rfl (fun v w h => h) fun us w' hG hV => ?_
            have e16 : us 16 = .pointer (some ⟨b, O + i * 26 + 21, none⟩) := hV 16 (by simp)
            have v16 := (frame_at2 (us := us) hl (show (adT[35]?).join = some 16 from rfl)).trans e16
            have hc := KS.out w' hG
            generalize frame adT a0 us = fr at *
            exact val_ok (v := .int .u8 xs) (w' := w') (by go_simp) hG (Below.refl _ _) rfl
          · refine step_guard [9] (by kernel_rfl) (j := 9) (t := 28) (b := true) rfl (by simp) rfl hl rfl (fun v w h => h) fun us w' hG hV => ?_
            have o3 := (frame_old2 (us := us) (a := a0) (show (adT[3]?).join = none from rfl)).trans k3
            generalize frame adT a0 us = fr at *
            exact val_ok (v := .pointer (some ⟨bx, 21, none⟩)) (w' := w') (by go_simp) hG (Below.refl _ _) rfl
          · refine step_guard [9, 18] (by kernel_rfl) (j := 9) (t := 28) (b := true) rfl (by simp) rfl hl rfl (fun v w h => h) fun us w' hG hV => ?_
            have e18 : us 18 = .pointer (some ⟨bx, 21, none⟩) := hV 18 (by simp)
            have v18 := (frame_at2 (us := us) hl (show (adT[37]?).join = some 18 from rfl)).trans e18
            have hc := PS.out w' hG
            generalize frame adT a0 us = fr at *
            exact val_ok (v := .int .u8 ks) (w' := w') (by go_simp) hG (Below.refl _ _) rfl
          · refine step_guard [9, 17, 19] (by kernel_rfl) (j := 9) (t := 28) (b := true) rfl (by simp) rfl hl rfl (fun v w h => h) fun us w' hG hV => ?_
            have e17 : us 17 = .int .u8 xs := hV 17 (by simp)
            have v17 := (frame_at2 (us := us) hl (show (adT[36]?).join = some 17 from rfl)).trans e17
            have e19 : us 19 = .int .u8 ks := hV 19 (by simp)
            have v19 := (frame_at2 (us := us) hl (show (adT[38]?).join = some 19 from rfl)).trans e19
            have hq := Q1.out
            generalize frame adT a0 us = fr at *
            exact val_ok (v := .bool false) (w' := w') (by go_simp) hG (Below.refl _ _) rfl
          · refine step_guard [9, 20] (by kernel_rfl) (j := 9) (t := 28) (b := true) rfl (by simp) rfl hl rfl (fun v w h => h) fun us w' hG hV => ?_
            have e20 : us 20 = .bool false := hV 20 (by simp)
            have v20 := (frame_at2 (us := us) hl (show (adT[39]?).join = some 20 from rfl)).trans e20
            generalize frame adT a0 us = fr at *
            exact val_ok (v := .bool false) (w' := w') (by go_simp) hG (Below.refl _ _) rfl
          · refine step_guard [21] (by kernel_rfl) (j := 21) (t := 40) (b := false) rfl (by simp) rfl hl rfl (fun v w h => h) fun us w' hG hV => ?_
            have o0 := (frame_old2 (us := us) (a := a0) (show (adT[0]?).join = none from rfl)).trans k0
            generalize frame adT a0 us = fr at *
            exact val_ok (v := .pointer (some ⟨r, 0, none⟩)) (w' := w') (by go_simp) hG (Below.refl _ _) rfl
          · refine step_guard [21, 22] (by kernel_rfl) (j := 21) (t := 40) (b := false) rfl (by simp) rfl hl rfl (fun v w h => h) fun us w' hG hV => ?_
            have e22 : us 22 = .pointer (some ⟨r, 0, none⟩) := hV 22 (by simp)
            have v22 := (frame_at2 (us := us) hl (show (adT[41]?).join = some 22 from rfl)).trans e22
            generalize frame adT a0 us = fr at *
            exact val_ok (v := .pointer (some ⟨r, 0, none⟩)) (w' := w') (by go_simp) hG (Below.refl _ _) rfl
          · refine step_guard [21, 23] (by kernel_rfl) (j := 21) (t := 40) (b := false) rfl (by simp) rfl hl rfl (fun v w h => h) fun us w' hG hV => ?_
            have e23 : us 23 = .pointer (some ⟨r, 0, none⟩) := hV 23 (by simp)
            have v23 := (frame_at2 (us := us) hl (show (adT[42]?).join = some 23 from rfl)).trans e23
            generalize frame adT a0 us = fr at *
            exact val_ok (v := .pointer (some ⟨r, 1, none⟩)) (w' := w') (by go_simp) hG (Below.refl _ _) rfl
          · refine step_guard [21, 24] (by kernel_rfl) (j := 21) (t := 40) (b := false) rfl (by simp) rfl hl rfl (fun v w h => h) fun us w' hG hV => ?_
            have e24 : us 24 = .pointer (some ⟨r, 1, none⟩) := hV 24 (by simp)
            have v24 := (frame_at2 (us := us) hl (show (adT[43]?).join = some 24 from rfl)).trans e24
            have hc := KL.out w' hG
            generalize frame adT a0 us = fr at *
            exact val_ok (v := .slice (some ⟨b, O, none⟩) m c) (w' := w') (by go_simp) hG (Below.refl _ _) rfl
          · refine step_guard [21] (by kernel_rfl) (j := 21) (t := 40) (b := false) rfl (by simp) rfl hl rfl (fun v w h => h) fun us w' hG hV => ?_
            have o6 := (frame_old2 (us := us) (a := a0) (show (adT[6]?).join = none from rfl)).trans k6
            generalize frame adT a0 us = fr at *
            exact val_ok (v := .int .i64 i) (w' := w') (by go_simp) hG (Below.refl _ _) rfl
          · refine step_guard [21, 25, 26] (by kernel_rfl) (j := 21) (t := 40) (b := false) rfl (by simp) rfl hl rfl (fun v w h => h) fun us w' hG hV => ?_
            have e25 : us 25 = .slice (some ⟨b, O, none⟩) m c := hV 25 (by simp)
            have v25 := (frame_at2 (us := us) hl (show (adT[44]?).join = some 25 from rfl)).trans e25
            have e26 : us 26 = .int .i64 i := hV 26 (by simp)
            have v26 := (frame_at2 (us := us) hl (show (adT[45]?).join = some 26 from rfl)).trans e26
            have hi := I1.out
            generalize frame adT a0 us = fr at *
            exact val_ok (v := .pointer (some ⟨b, O + i * 26, none⟩)) (w' := w') (by go_simp) hG (Below.refl _ _) rfl
          · refine step_guard [21, 27] (by kernel_rfl) (j := 21) (t := 40) (b := false) rfl (by simp) rfl hl rfl (fun v w h => h) fun us w' hG hV => ?_
            have e27 : us 27 = .pointer (some ⟨b, O + i * 26, none⟩) := hV 27 (by simp)
            have v27 := (frame_at2 (us := us) hl (show (adT[46]?).join = some 27 from rfl)).trans e27
            generalize frame adT a0 us = fr at *
            exact val_ok (v := .pointer (some ⟨b, O + i * 26 + 22, none⟩)) (w' := w') (by go_simp) hG (Below.refl _ _) rfl
          · refine step_guard [21, 28] (by kernel_rfl) (j := 21) (t := 40) (b := false) rfl (by simp) rfl hl rfl (fun v w h => h) fun us w' hG hV => ?_
            have e28 : us 28 = .pointer (some ⟨b, O + i * 26 + 22, none⟩) := hV 28 (by simp)
            have v28 := (frame_at2 (us := us) hl (show (adT[47]?).join = some 28 from rfl)).trans e28
            have hc := KRr.out w' hG
            generalize frame adT a0 us = fr at *
            exact val_ok (v := .int .u8 xr) (w' := w') (by go_simp) hG (Below.refl _ _) rfl
          · refine step_guard [21] (by kernel_rfl) (j := 21) (t := 40) (b := false) rfl (by simp) rfl hl rfl (fun v w h => h) fun us w' hG hV => ?_
            have o3 := (frame_old2 (us := us) (a := a0) (show (adT[3]?).join = none from rfl)).trans k3
            generalize frame adT a0 us = fr at *
            exact val_ok (v := .pointer (some ⟨bx, 22, none⟩)) (w' := w') (by go_simp) hG (Below.refl _ _) rfl
          · refine step_guard [21, 30] (by kernel_rfl) (j := 21) (t := 40) (b := false) rfl (by simp) rfl hl rfl (fun v w h => h) fun us w' hG hV => ?_
            have e30 : us 30 = .pointer (some ⟨bx, 22, none⟩) := hV 30 (by simp)
            have v30 := (frame_at2 (us := us) hl (show (adT[49]?).join = some 30 from rfl)).trans e30
            have hc := PR.out w' hG
            generalize frame adT a0 us = fr at *
            exact val_ok (v := .int .u8 kr) (w' := w') (by go_simp) hG (Below.refl _ _) rfl
          · refine step_guard [21, 29, 31] (by kernel_rfl) (j := 21) (t := 40) (b := false) rfl (by simp) rfl hl rfl (fun v w h => h) fun us w' hG hV => ?_
            have e29 : us 29 = .int .u8 xr := hV 29 (by simp)
            have v29 := (frame_at2 (us := us) hl (show (adT[48]?).join = some 29 from rfl)).trans e29
            have e31 : us 31 = .int .u8 kr := hV 31 (by simp)
            have v31 := (frame_at2 (us := us) hl (show (adT[50]?).join = some 31 from rfl)).trans e31
            have hq := Q2.out
            generalize frame adT a0 us = fr at *
            exact val_ok (v := .bool false) (w' := w') (by go_simp) hG (Below.refl _ _) rfl
          · refine step_guard [9, 21, 32] (by kernel_rfl) (j := 9) (t := 28) (b := true) rfl (by simp) rfl hl rfl (fun v w h => h) fun us w' hG hV => ?_
            have e21 : us 21 = .bool false := hV 21 (by simp)
            have v21 := (frame_at2 (us := us) hl (show (adT[40]?).join = some 21 from rfl)).trans e21
            have e32 : us 32 = .bool false := hV 32 (by simp)
            have v32 := (frame_at2 (us := us) hl (show (adT[51]?).join = some 32 from rfl)).trans e32
            generalize frame adT a0 us = fr at *
            exact val_ok (v := .bool false) (w' := w') (by go_simp) hG (Below.refl _ _) rfl
          · refine step_plain [9, 33] (by kernel_rfl) rfl fun us w' hG hV => ?_
            have e9 : us 9 = .bool true := hV 9 (by simp)
            have v9 := (frame_at2 (us := us) hl (show (adT[28]?).join = some 9 from rfl)).trans e9
            have e33 : us 33 = .bool false := hV 33 (by simp)
            have v33 := (frame_at2 (us := us) hl (show (adT[52]?).join = some 33 from rfl)).trans e33
            generalize frame adT a0 us = fr at *
            exact val_ok (v := .bool false) (w' := w') (by go_simp) hG (Below.refl _ _) rfl
          · intro us wz hG hV
            have e34 : us 34 = .bool false := hV 34 (by decide)
            subst ha0
            simp only [frame, adT, fill]
            rw [e34]
            have HG := Lib.hid (show Below wr.heap.size wr wz from hG)
            have cl := KL.out wz hG
            clear hV hl hG e34
            generalize us 0 = u_0
            generalize us 1 = u_1
            generalize us 2 = u_2
            generalize us 3 = u_3
            generalize us 4 = u_4
            generalize us 5 = u_5
            generalize us 6 = u_6
            generalize us 7 = u_7
            generalize us 8 = u_8
            generalize us 9 = u_9
            generalize us 10 = u_10
            generalize us 11 = u_11
            generalize us 12 = u_12
            generalize us 13 = u_13
            generalize us 14 = u_14
            generalize us 15 = u_15
            generalize us 16 = u_16
            generalize us 17 = u_17
            generalize us 18 = u_18
            generalize us 19 = u_19
            generalize us 20 = u_20
            generalize us 21 = u_21
            generalize us 22 = u_22
            generalize us 23 = u_23
            generalize us 24 = u_24
            generalize us 25 = u_25
            generalize us 26 = u_26
            generalize us 27 = u_27
            generalize us 28 = u_28
            generalize us 29 = u_29
            generalize us 30 = u_30
            generalize us 31 = u_31
            generalize us 32 = u_32
            generalize us 33 = u_33
            have HN2 := NO
            clear NO
            go_wp2_with fail
            go_roundw
            case rel => exact ⟨i + 1, by have := HI.out; omega, by go_num, HN2.out, HBW.out.trans (HG.out.mono HBW.out.size)⟩
            case measure => have := HI.out; simp [intOf]; omega
end Go.Proofs.Ytflfkhcbkhdahaa.mkC
