/-
  2 texts of a proof, joined.
-/
import Derived.Test.YtcnnpfjommiafaaMg33
import Derived.Test.YtcnnpfjommiafaaMg3
import Derived.Test.YtcnnpfjommiafaaMg8
import Derived.Test.YtcnnpfjommiafaaRows
import Derived.WalkKit
import Derived.ProofKit
import Derived.OpenShut
import Derived.ShutString
import Derived.ChangeOld
import Derived.Below

/-
  FragTogether over what the laws ask of the program's functions.
-/
namespace Go.Proofs.Ytcnnpfjommiafaa.fgC
open Go.ChangeShapes Go.WideShapes Go.ChangeAt Go.RowKit Go.Maps
open Go.Proofs.Ytcnnpfjommiafaa.memC Go.Proofs.Ytcnnpfjommiafaa.genC Go.Proofs.Ytcnnpfjommiafaa.butC Go.Proofs.Ytcnnpfjommiafaa.freeC Go.Proofs.Ytcnnpfjommiafaa.adC
open Go.Proofs.Ytcnnpfjommiafaa.pkC (Pkt pktL pktV pktT adrC)
set_option linter.unusedVariables false
theorem size_setCellK (w : World) (a : Addr) (v : Value) : (w.setCell a v).heap.size = w.heap.size := by
  unfold World.setCell
  split <;> simp
section
variable {P : Program} {L : List Oper} {Q : Exit → Act → World → Prop} {o : Oper} {a : Act} {tab : List (Option Nat)} {G : World → Prop} {V : Nat → Value → World → Prop} {i : Nat}
/-- an operation whose guard may say either -/
theorem step_condK (need : List Nat) (hn : needs o need = true) {j t : Nat} (hg : o.guard = some (j, true)) (hj : j ∈ need) (hL : (L[j]?).bind (·.dst) = some t) (hl : tab.length = a.tmps.size) (ht : (tab[t]?).join = some j) (c : Bool)
    (hv : ∀ v w, V j v w → v = .bool c) (hu : c = false → ∀ w, V i undef w)
    (h : c = true → ∀ us w, G w → (∀ j, j ∈ need → V j (us j) w) → o.wp P (frame tab a us) w (fun a' w' => ∃ v, a' = (frame tab a us).put o.dst v ∧ G w' ∧ Below w.heap.size w w' ∧ V i v w') Q) : Step P L Q tab a G V i o := by
  intro m us w hG hV hd
  have hy := yield_at (L := L) (us := us) hl hL ht (hv _ _ (hV j (need_ok hn hd j hj)))
  cases c
  · rw [if_neg (by simp [Region.wanted, hg, hy])]
    exact hu rfl w
  · rw [if_pos (show Region.wanted o (yielded L.toArray (frame tab a us).tmps) = true by simp [Region.wanted, hg, hy])]
    exact h rfl us w hG fun j hj => hV j (need_ok hn hd j hj)
end
theorem same_one (p : Pkt) (A B : Option Addr) (n m c d : Nat) (xs : List Int) (w : World) {k : Nat} (hp : p.Ok) (hx : Nums .u8 w k A n xs) (hy : Nums .u8 w k B m xs) (hk : k ≤ w.heap.size) (yx : ∀ x ∈ xs, Byte x) :
    Calls Try.prog 13 #[.agg (pktV p A n c), .agg (pktV p B m d)] w (Ret w (.bool true)) := by
  have h9 := pkC.rsame_any p p A B n c m d xs xs w hp hp (hx.more hk) (hy.more hk) yx yx
  rw [sameB_selfK] at h9
  exact h9
theorem lenm_run {H : Type} {P : Program} {fr : Act} {o : Oper} {w : World} {s : Tmp} {T K E : TypeId} {g k : Nat} {R : Value → Option (DataW H × List MemPlace)} {D : DataW H} {L : Nat} (ho : o.op = .call { callee := .builtin .len, args := #[.tmp s], argTypes := #[T] })
    (hx : fr.tmps[s]?.getD undef = .map (some g)) (ht : P.underlying T = some (.map K E)) (hown : w.ownsMap P K R g k D) (hL : Maps.size D = L) : (execOp fr.eval o).run P w = .ok (.value (.int .i64 L)) w := by
  have hx2 : fr.eval (.tmp s) = .map (some g) := by simpa only [Act.eval, Array.getD_eq_getD_getElem?] using hx
  simp [execOp, ho, resolve, invoke, builtin, hx2, hown.len ht o.type, Result.andThen, hL]
def tuV (g0 g16 gm b1 o1 n3 c3 LL : Nat) (CQ CW CX : Array Value) : Nat → Value → World → Prop
  | 0, v, _ => v = .int .i64 0
  | 1, v, _ => v = .bool false
  | 2, v, _ => v = .bool false
  | 3, v, _ => v = .bool true
  | 4, v, _ => v = .map (some gm)
  | 5, v, _ => v = .int .i64 LL
  | 6, v, _ => v = .slice (some ⟨b1, o1, none⟩) n3 c3
  | 7, v, _ => v = .int .i64 n3
  | 8, v, _ => v = .bool true
  | 9, v, _ => v = .bool false
  | 10, v, _ => v = .bool false
  | 11, v, _ => v = .bool false
  | 12, v, _ => v = .bool true
  | 13, v, _ => v = .bool true
  | 14, v, _ => v = .agg CX
  | 15, v, _ => v = .agg CQ
  | 16, v, _ => v = .agg CW
  | 17, v, _ => v = .bool true
  | 18, v, _ => v = .bool false
  | 19, v, _ => v = .bool false
  | 20, v, _ => v = .bool false
  | _, _, _ => True
theorem tuV.keep (g0 g16 gm b1 o1 n3 c3 LL : Nat) (CQ CW CX : Array Value) (i : Nat) (v : Value) (w w' : World) (hb : Below w.heap.size w w') (h : tuV g0 g16 gm b1 o1 n3 c3 LL CQ CW CX i v w) : tuV g0 g16 gm b1 o1 n3 c3 LL CQ CW CX i v w' := by
  unfold tuV at h ⊢
  split at h <;> exact h
def tuT : List (Option Nat) := [none, none, none, none, none, none, none, none, none, none, none, none, none, none, none, none, none, none, none, none, none, none, none, none, none, none, none, none, none, none, none, none, none, none, none, none, none, none, none, none, none, none, none, none, none, none, none, none, none, none, none, none, none, none, none, none, none, none, none, none, none, none, none, none, none, none, none, none, none, none, none, none, none, none, none, none, none, none, none, none, none, none, none, none, none, none, none, none, none, none, none, none, none, none, none, none, none, none, none, none, none, none, none, none, none, none, none, none, none, none, some 0, some 1, some 2, some 3, some 4, some 5, some 6, some 7, some 8, some 9, some 10, some 11, some 12, some 13, some 14, some 15, some 16, some 17, some 18, some 19, some 20, none, none]
def tvV (gm b1 o1 n3 c3 LL : Nat) : Nat → Value → World → Prop
  | 0, v, _ => v = .int .i64 0
  | 1, v, _ => v = .bool false
  | 2, v, _ => v = .bool false
  | 3, v, _ => v = .bool false
  | 4, v, _ => v = .map (some gm)
  | 5, v, _ => v = .int .i64 LL
  | 6, v, _ => v = .slice (some ⟨b1, o1, none⟩) n3 c3
  | 7, v, _ => v = .int .i64 n3
  | 8, v, _ => v = .bool false
  | 9, v, _ => v = .bool false
  | 10, v, _ => v = .bool false
  | 11, v, _ => v = .bool false
  | 12, v, _ => v = .bool false
  | 13, v, _ => v = .bool false
  | 19, v, _ => v = .bool false
  | 20, v, _ => v = .bool false
  | _, _, _ => True
theorem tvV.keep (gm b1 o1 n3 c3 LL : Nat) (i : Nat) (v : Value) (w w' : World) (hb : Below w.heap.size w w') (h : tvV gm b1 o1 n3 c3 LL i v w) : tvV gm b1 o1 n3 c3 LL i v w' := by
  unfold tvV at h ⊢
  split at h <;> exact h
def tvT : List (Option Nat) := [none, none, none, none, none, none, none, none, none, none, none, none, none, none, none, none, none, none, none, none, none, none, none, none, none, none, none, none, none, none, none, none, none, none, none, none, none, none, none, none, none, none, none, none, none, none, none, none, none, none, none, none, none, none, none, none, none, none, none, none, none, none, none, none, none, none, none, none, none, none, none, none, none, none, none, none, none, none, none, none, none, none, none, none, none, none, none, none, none, none, none, none, none, none, none, none, none, none, none, none, none, none, none, none, none, none, none, none, none, none, some 0, some 1, some 2, some 3, some 4, some 5, some 6, some 7, some 8, some 9, some 10, some 11, some 12, some 13, some 14, some 15, some 16, some 17, some 18, some 19, some 20, none, none]
set_option maxRecDepth 100000 in
set_option maxHeartbeats 4000000 in
theorem together_walk {Tb : World → (Nat → Prop) → Nat → TSt → Prop} (F : FrF Tb) (hal : Alive) (p : Pkt) (A : Option Addr) (n c : Nat) (xs : List Int) (mtu : Int) (O : Option Addr) (m d : Nat) (os : List Int) (w : World) (hp : p.Ok) (hx : Nums .u8 w w.heap.size A n xs) (hy : ∀ x ∈ xs, Byte x) (hnc : n ≤ c) (hcm : c ≤ 9223372036854775807) (hm : -9223372036854775808 ≤ mtu ∧ mtu ≤ 9223372036854775807)
    (ho : Nums .u16 w w.heap.size O m os) (hoy : ∀ x ∈ os, 0 ≤ x ∧ x ≤ 65535) (hmd : m ≤ d) :
    Calls Try.prog 4 #[.agg (pktV p A n c), .int .i64 mtu, .slice O m d] w (Ret w (.bool true)) := by
  obtain ⟨W, hW⟩ : ∃ W, W = w.alloc (.cells (pktV p A n c) 28) := ⟨_, rfl⟩
  have T0 := Lib.hid (show Qb w W w.heap.size p A n c from ⟨by rw [hW]; exact heap_alloc_new _ _, by rw [hW]; exact alloc_below _ _, Nat.le_refl _, hp⟩)
  have HB := Lib.hid T0.out.bel
  have p40 := T0.out.cell 6 _ rfl
  have p0 := pkC.PkC.cell T0.out.row ((pkC.pkC hp A n c).src 0 (.bool p.s) rfl)
  have c37 := T0.out.cell 3 _ rfl
  have c38 := T0.out.cell 4 _ rfl
  have c39 := T0.out.cell 5 _ rfl
  have f37 := T0.out.frozen 3
  have f38 := T0.out.frozen 4
  have f39 := T0.out.frozen 5
  have AL := Lib.hid hal
  have hlen := hx.len
  have hmm := @run_makeMap Try.prog
  by_cases hbig : 1500 < n ∨ n = 0 ∨ 300 < m
  · obtain ⟨C0, hC0⟩ : ∃ C, C = pktV p A n c := ⟨_, rfl⟩
    rw [← hC0] at hW ⊢
    clear F hal hp hx hy hnc hcm hm ho hoy hmd hlen c37 c38 c39 f37 f38 f39 p0 hC0 hmm
    by_cases h1 : 1500 < n
    · have q1 : (n : Int) > 1500 := by omega
      have q1d : decide ((n : Int) > 1500) = true := decide_eq_true q1
      clear hbig h1
      go_enter Try.func4, Try.ntmps4
      go_upto_region 1 with fail
      rw [← hW]
      clear hW
      go_wp2_with (first
        | go_skip
        | (go_at_call 7; (refine (AL.out _).mono ?_); rintro e w3 ⟨rfl, BB⟩
           have HB3 := Lib.hid (HB.out.trans (BB.mono HB.out.size))
           clear BB))
      go_ret
      exact ⟨rfl, HB3.out⟩
    have q1 : ¬ (n : Int) > 1500 := by omega
    have q1d : decide ((n : Int) > 1500) = false := decide_eq_false q1
    by_cases h2 : n = 0
    · subst h2
      clear hbig h1
      go_enter Try.func4, Try.ntmps4
      go_upto_region 1 with fail
      rw [← hW]
      clear hW
      go_wp2_with (first
        | go_skip
        | (go_at_call 7; (refine (AL.out _).mono ?_); rintro e w3 ⟨rfl, BB⟩
           have HB3 := Lib.hid (HB.out.trans (BB.mono HB.out.size))
           clear BB))
      go_ret
      exact ⟨rfl, HB3.out⟩
    have q2 : ¬ (n : Int) = 0 := by omega
    have q2b : ((n : Int) == 0) = false := by simp; omega
    have q2d : decide ((n : Int) = 0) = false := decide_eq_false q2
    have h3 : 300 < m := by omega
    have q3 : (m : Int) > 300 := by omega
    have q3d : decide ((m : Int) > 300) = true := decide_eq_true q3
    clear hbig h1 h2 h3
    go_enter Try.func4, Try.ntmps4
    go_upto_region 1 with fail
    rw [← hW]
    clear hW
    go_wp2_with (first
      | go_skip
      | (go_at_call 7; (refine (AL.out _).mono ?_); rintro e w3 ⟨rfl, BB⟩
         have HB3 := Lib.hid (HB.out.trans (BB.mono HB.out.size))
         clear BB))
    go_ret
    exact ⟨rfl, HB3.out⟩
  have h1 : ¬ 1500 < n := fun h => hbig (.inl h)
  have h2 : ¬ n = 0 := fun h => hbig (.inr (.inl h))
  have h3 : ¬ 300 < m := fun h => hbig (.inr (.inr h))
  have q1 : ¬ (n : Int) > 1500 := by omega
  have q1d : decide ((n : Int) > 1500) = false := decide_eq_false q1
  have q2 : ¬ (n : Int) = 0 := by omega
  have q2b : ((n : Int) == 0) = false := by simp; omega
  have q2d : decide ((n : Int) = 0) = false := decide_eq_false q2
  have q3 : ¬ (m : Int) > 300 := by omega
  have q3d : decide ((m : Int) > 300) = false := decide_eq_false q3
  have HN := Lib.hid h1
  have HN0 := Lib.hid (show 0 < n by omega)
  have HM3 := Lib.hid (show m ≤ 300 by omega)
  have HMD := Lib.hid hmd
  clear hbig h1 h2 h3 hmd
  obtain ⟨q, hq⟩ : ∃ q : Pkt, q = { p with whole := p.s, off := 0, more := false } := ⟨_, rfl⟩
  have QO : q.Ok := by rw [hq]; exact ⟨hp.la, hp.lb, hp.ya, hp.yb, hp.proto, hp.hops, hp.id, ⟨by show (-9223372036854775808 : Int) ≤ 0; decide, by show (0 : Int) ≤ 9223372036854775807; decide⟩⟩
  have hqw : q.whole = q.s := by rw [hq]
  have hqo : q.off = 0 := by rw [hq]
  have hqm : q.more = false := by rw [hq]
  have CC := Lib.hid (fun (w' : World) (h : Below w.heap.size w w') => F.cut q A n c xs mtu 9 w' QO ((hx.below h).more h.size) hy hnc hcm hm (by decide) (by have := HN.out; omega))
  have HX := Lib.hid hx
  have HO := Lib.hid ho
  have HOY := Lib.hid hoy
  have HYX := Lib.hid hy
  have HNC := Lib.hid (And.intro hnc hcm)
  have T3 := Lib.hid (show Qb w (((W.setCell ⟨w.heap.size, 37, none⟩ (.bool p.s)).setCell ⟨w.heap.size, 39, none⟩ (.int .i64 0)).setCell ⟨w.heap.size, 38, none⟩ (.bool false)) w.heap.size q A n c by
    rw [hq]
    have T1 : Qb w (W.setCell ⟨w.heap.size, 37, none⟩ (.bool p.s)) w.heap.size { p with whole := p.s } A n c := T0.out.set_ 3 (.bool p.s) rfl ⟨rfl, rfl, rfl, rfl⟩ ⟨hp.la, hp.lb, hp.ya, hp.yb, hp.proto, hp.hops, hp.id, hp.off⟩
    have T2 : Qb w ((W.setCell ⟨w.heap.size, 37, none⟩ (.bool p.s)).setCell ⟨w.heap.size, 39, none⟩ (.int .i64 0)) w.heap.size { p with whole := p.s, off := 0 } A n c := T1.set_ 5 (.int .i64 0) rfl ⟨rfl, rfl, rfl, rfl⟩ ⟨hp.la, hp.lb, hp.ya, hp.yb, hp.proto, hp.hops, hp.id, ⟨by show (-9223372036854775808 : Int) ≤ 0; decide, by show (0 : Int) ≤ 9223372036854775807; decide⟩⟩
    exact T2.set_ 4 (.bool false) rfl ⟨rfl, rfl, rfl, rfl⟩ ⟨hp.la, hp.lb, hp.ya, hp.yb, hp.proto, hp.hops, hp.id, ⟨by show (-9223372036854775808 : Int) ≤ 0; decide, by show (0 : Int) ≤ 9223372036854775807; decide⟩⟩)
  obtain ⟨C0, hC0⟩ : ∃ C, C = pktV p A n c := ⟨_, rfl⟩
  rw [← hC0] at hW ⊢
  have QW := Lib.hid hqw
  have QF := Lib.hid hqo
  have QM := Lib.hid hqm
  have QK := Lib.hid QO
  clear hx ho hoy hy hnc hcm hp hq QO hqw hqo hqm hC0 hlen hal
  generalize p.s = b0 at *
  go_enter Try.func4, Try.ntmps4
  go_upto_region 1 with fail
  rw [← hW]
  clear hW
  go_upto_region 3 with go_skip
  go_upto_region 4 with fail
  clear c37 c38 c39 f37 f38 f39 p0 p40 T0 q1 q1d q2 q2b q2d q3 q3d
  generalize ((W.setCell ⟨w.heap.size, 37, none⟩ (.bool b0)).setCell ⟨w.heap.size, 39, none⟩ (.int .i64 0)).setCell ⟨w.heap.size, 38, none⟩ (.bool false) = w2 at *
  have HB2 := Lib.hid T3.out.bel
  have I2 := Lib.hid (pkt_info T3.out.ok A n c)
  have R2 := Lib.hid T3.out.row
  obtain ⟨CQ, hCQ⟩ : ∃ C, C = pktV q A n c := ⟨_, rfl⟩
  have HCQ := Lib.hid hCQ
  rw [← hCQ] at I2 R2 CC
  clear hCQ T3 HB
  go_upto_region 5 with (first
    | (refine wpList_load_row rfl 28 (.tmp 3) rfl (w.heap.size) rfl _ _ _ _ R2.out Try.underlying28 rfl I2.out ?_)
    | (go_at_call 8; (refine (CC.out w2 HB2.out).mono ?_); rintro e w3 ⟨A3, n3, c3, es, rfl, P3, E3, BB⟩
       have HB3 := Lib.hid (HB2.out.trans (BB.mono HB2.out.size))
       have R3 := Lib.hid ((BB.block _ (lt_of_rowK R2.out)).trans R2.out)
       have HP3 := Lib.hid P3
       have HE3 := Lib.hid E3
       clear BB P3 E3))
  clear R2 HB2 CC
  generalize hE : cutE (q, xs) mtu = er at *
  by_cases hbad : er ≠ 0 ∨ n3 < 2 ∨ 64 < n3
  · clear F hE HE3 HP3
    by_cases h1 : er = 0
    rotate_left
    · have q1 : ¬ er = 0 := h1
      have q1b : (er != 0) = true := by simp [h1]
      have q1d : decide (er ≠ 0) = true := decide_eq_true h1
      clear hbad h1
      go_wp2_with (first
        | go_skip
        | (go_at_call 7; (refine (AL.out _).mono ?_); rintro e w4 ⟨rfl, BB⟩
           have HB4 := Lib.hid (HB3.out.trans (BB.mono HB3.out.size))
           clear BB))
      go_ret
      exact ⟨rfl, HB4.out⟩
    subst h1
    by_cases h2 : n3 < 2
    · have q2 : (n3 : Int) < 2 := by omega
      have q2d : decide ((n3 : Int) < 2) = true := decide_eq_true q2
      clear hbad h2
      go_wp2_with (first
        | go_skip
        | (go_at_call 7; (refine (AL.out _).mono ?_); rintro e w4 ⟨rfl, BB⟩
           have HB4 := Lib.hid (HB3.out.trans (BB.mono HB3.out.size))
           clear BB))
      go_ret
      exact ⟨rfl, HB4.out⟩
    have q2 : ¬ (n3 : Int) < 2 := by omega
    have q2d : decide ((n3 : Int) < 2) = false := decide_eq_false q2
    have q4 : (n3 : Int) > 64 := by omega
    have q4d : decide ((n3 : Int) > 64) = true := decide_eq_true q4
    clear hbad h2
    go_wp2_with (first
      | go_skip
      | (go_at_call 7; (refine (AL.out _).mono ?_); rintro e w4 ⟨rfl, BB⟩
         have HB4 := Lib.hid (HB3.out.trans (BB.mono HB3.out.size))
         clear BB))
    go_ret
    exact ⟨rfl, HB4.out⟩
  obtain rfl : er = 0 := Classical.byContradiction fun h => hbad (.inl h)
  have q2 : ¬ (n3 : Int) < 2 := by have : ¬ n3 < 2 := fun h => hbad (.inr (.inl h)); omega
  have q2d : decide ((n3 : Int) < 2) = false := decide_eq_false q2
  have q4 : ¬ (n3 : Int) > 64 := by have : ¬ 64 < n3 := fun h => hbad (.inr (.inr h)); omega
  have q4d : decide ((n3 : Int) > 64) = false := decide_eq_false q4
  have HE := Lib.hid hE
  have HL := Lib.hid (show (cutL (q, xs) mtu 9).length = n3 by have h1 := HP3.out.len; have h2 := congrArg List.length HE3.out; rw [List.length_map] at h2; omega)
  have N2 := Lib.hid (show 2 ≤ n3 ∧ n3 ≤ 64 by omega)
  clear hE hbad
  go_upto_region 7 with go_skip
  clear q2 q2d q4 q4d
  have NC := Lib.hid (fun (w' : World) => F.new 4 w' (by decide) (by decide))
  have AD := Lib.hid F.add
  have KT := Lib.hid F.keep
  have LT := Lib.hid F.lt
  have hzv := zeroPktK
  obtain ⟨ZP, hZP⟩ : ∃ C, C = pktV zPkt none 0 0 := ⟨_, rfl⟩
  rw [← hZP] at hzv
  have XI := Lib.hid (fun (p : Pkt) (h : p.Ok) (A : Option Addr) (n c : Nat) => pkt_info h A n c)
  have XZ := Lib.hid (fun (p : Pkt) (h : p.Ok) (A : Option Addr) (n c : Nat) => (show ZP.size = (pktV p A n c).size by
    rw [hZP]
    have h1 := (pkC.pkC h A n c).size
    rw [h1]; rfl))
  have XO := Lib.hid pkt_one
  obtain ⟨sz, CT, PT⟩ := cutting_of (q := (q, xs)) (mtu := mtu) (id := 9) HE.out (by rw [HL.out]; exact N2.out.1) (by rw [HL.out]; exact N2.out.2) (by have := HN.out; have := HX.out.len; show xs.length ≤ 1500; omega)
  rw [HL.out] at CT PT
  have CU := Lib.hid CT
  have PCS := Lib.hid (show ∀ i e, es[i]? = some e → e.pc = pieceP (q, xs) 9 sz (i * sz) from fun i e he => by
    have hi : i < n3 := by have h1 := (List.getElem?_eq_some_iff.1 he).1; have := HP3.out.len; omega
    have h1 := PT i hi
    rw [← HE3.out, List.getElem?_map, he] at h1
    exact Option.some.inj h1)
  clear F CT PT hZP HE HL HE3
  have hl1 := HP3.out.row.len
  obtain ⟨e0, he0⟩ : ∃ e, es[0]? = some e := ⟨es[0]'(by have := N2.out; omega), List.getElem?_eq_getElem _⟩
  obtain ⟨b1, o1, hA1, hb1, c1⟩ := HP3.out.row.at_ (by have := N2.out; omega)
  subst hA1
  have me := List.mem_of_getElem? he0
  have HO0 := Lib.hid (HP3.out.ok e0 me)
  have HD0 := Lib.hid (HP3.out.ld e0 me)
  have HE0 := Lib.hid (PCS.out 0 e0 he0)
  have C1 := Lib.hid (show ∀ j v, e0.cells[j]? = some v → w3.cell? ⟨b1, o1 + j, none⟩ = some v from fun j v hv => by have h1 := c1 0 e0 he0 j v hv; rw [Nat.zero_mul, Nat.add_zero] at h1; exact h1)
  have HC1 := Lib.hid c1
  have HB1 := Lib.hid hb1
  have HL1 := Lib.hid hl1
  have IE := Lib.hid (pkt_size HO0.out.p)
  have HE00 := Lib.hid he0
  clear me he0 hl1 hb1 c1
  go_upto_region 10 with (first
    | go_skip
    | (go_at_call 11; (refine (NC.out w3).mono ?_); rintro e w4 ⟨t, S0, rfl, T4, S4, BB⟩
       have HB4 := Lib.hid BB
       have HT4 := Lib.hid T4
       have HS4 := Lib.hid S4
       clear BB T4 S4))
  have C4 := Lib.hid (show ∀ j v, e0.cells[j]? = some v → w4.cell? ⟨b1, o1 + j, none⟩ = some v from fun j v hv => (HB4.out.cell (p := ⟨b1, o1 + j, none⟩) HB1.out).trans (C1.out j v hv))
  clear C1 NC
  obtain ⟨EC, hEC⟩ : ∃ C, C = pktL e0.p e0.A e0.n e0.c := ⟨_, rfl⟩
  have C4' := Lib.hid (show ∀ j v, EC[j]? = some v → w4.cell? ⟨b1, o1 + j, none⟩ = some v by rw [hEC]; exact C4.out)
  have IE' := Lib.hid (show (Try.prog.info? 28).map (·.size) = some EC.length by rw [hEC]; exact IE.out)
  have IE2 := Lib.hid (show (Try.prog.info? 28).map (·.size) = some EC.toArray.size by rw [hEC]; exact XI.out e0.p HO0.out.p e0.A e0.n e0.c)
  have ZE2 := Lib.hid (show ZP.size = EC.toArray.size by rw [hEC]; exact XZ.out e0.p HO0.out.p e0.A e0.n e0.c)
  have OE2 := Lib.hid (show EC.toArray.all (·.oneCell') = true by rw [hEC]; exact XO.out e0.p e0.A e0.n e0.c)
  have HEC := Lib.hid hEC
  clear C4 IE hEC
  have z3 : (0 : Int) < (n3 : Int) := by have := N2.out; omega
  have z3n : 0 < n3 := by omega
  go_upto_region 11 with (first
    | (refine pkC.wpList_load_partG (by kernel_rfl) 28 (.tmp 67) rfl b1 o1 (by kernel_rfl) EC _ C4'.out Try.underlying28 rfl IE'.out ?_)
    | (refine wpList_store_row rfl 28 (.tmp 11) (.tmp 68) rfl w4.heap.size EC.toArray rfl rfl _ _ (heap_alloc_new _ _) IE2.out ZE2.out OE2.out ?_; rw [World.setRow_alloc_new]))
  clear z3 z3n
  have A5 := alloc_below w4 (.cells EC.toArray 28)
  have Q5 := Lib.hid (show Qb w4 (w4.alloc (.cells EC.toArray 28)) w4.heap.size e0.p e0.A e0.n e0.c from ⟨by rw [HEC.out]; exact heap_alloc_new _ _, A5, Nat.le_refl _, HO0.out.p⟩)
  have Z5 := Lib.hid (alloc_size w4 (.cells EC.toArray 28))
  clear A5 C4' IE' IE2 ZE2 OE2 HEC
  generalize w4.alloc (.cells EC.toArray 28) = w5 at *
  obtain ⟨g11, hg11⟩ : ∃ g, g = w4.heap.size := ⟨_, rfl⟩
  rw [← hg11] at Q5 Z5 ⊢
  have HG11 := Lib.hid hg11
  clear hg11
  have PN := Lib.hid (proto_next HO0.out.p.proto)
  obtain ⟨pr2, hpr⟩ : ∃ x, IntKind.u8.wrap (e0.p.proto + 1) = x := ⟨_, rfl⟩
  rw [hpr] at PN
  have c34 := Q5.out.cell 0 _ rfl
  have f34 := Q5.out.frozen 0
  go_upto_region 12 with fail
  obtain ⟨o, hoo⟩ : ∃ o : Pkt, o = { e0.p with proto := pr2 } := ⟨_, rfl⟩
  have OOK : o.Ok := by rw [hoo]; exact ⟨HO0.out.p.la, HO0.out.p.lb, HO0.out.p.ya, HO0.out.p.yb, PN.out.2, HO0.out.p.hops, HO0.out.p.id, HO0.out.p.off⟩
  have Q6 := Lib.hid (show Qb w4 (w5.setCell ⟨g11, 34, none⟩ (.int .u8 pr2)) g11 o e0.A e0.n e0.c by
    rw [hoo]
    exact Q5.out.set_ 0 (.int .u8 pr2) rfl ⟨rfl, rfl, rfl, rfl⟩ ⟨HO0.out.p.la, HO0.out.p.lb, HO0.out.p.ya, HO0.out.p.yb, PN.out.2, HO0.out.p.hops, HO0.out.p.id, HO0.out.p.off⟩)
  have Z6 := Lib.hid (show (w5.setCell ⟨g11, 34, none⟩ (.int .u8 pr2)).heap.size = g11 + 1 by rw [size_setCellK, Z5.out])
  have HOO := Lib.hid OOK
  have HOP := Lib.hid (show o.proto ≠ q.proto by
    rw [hoo]
    have h1 : e0.p.proto = q.proto := by have := congrArg (fun x : Pc => x.1.proto) HE0.out; exact this
    rw [← h1]
    exact PN.out.1)
  have HOW := Lib.hid (show wholeP (o, e0.x) = false by
    have h1 : e0.p.more = true := by
      have h2 := congrArg (fun x : Pc => x.1.more) HE0.out
      rw [CU.out.more (show 0 < n3 by have := N2.out; omega), decide_eq_true (show 0 + 1 < n3 by have := N2.out; omega)] at h2
      exact h2
    unfold wholeP
    rw [hoo]
    simp [h1])
  clear hoo OOK c34 f34 hpr PN Q5 Z5 HE0
  generalize w5.setCell ⟨g11, 34, none⟩ (.int .u8 pr2) = w6 at *
  go_upto_region 13 with fail
  have A7 := alloc_below w6 (.map #[] 0)
  have SI := Lib.hid (SetI.made w6)
  obtain ⟨w7, hw7⟩ : ∃ W, W = w6.alloc (.map #[] 0) := ⟨_, rfl⟩
  rw [← hw7] at A7 SI ⊢
  clear hw7
  rw [Z6.out] at A7 SI ⊢
  obtain ⟨gm, hgm⟩ : ∃ g, g = g11 + 1 := ⟨_, rfl⟩
  rw [← hgm] at A7 SI ⊢
  have HGM := Lib.hid hgm
  clear hgm
  have B47 := Lib.hid (Q6.out.bel.trans (A7.mono (by have := HG11.out; have := HGM.out; omega)))
  have RO := Lib.hid (show w7.heap[g11]? = some (.cells (pktV o e0.A e0.n e0.c) 28 (0, 0)) by rw [A7.block _ (by have := HGM.out; omega)]; exact Q6.out.row)
  have B37 := Lib.hid (HB4.out.trans (B47.out.mono HB4.out.size))
  have Bw7 := Lib.hid (HB3.out.trans (B37.out.mono HB3.out.size))
  have HT7 := Lib.hid (KT.out _ w7 S0 t _ HT4.out B47.out.size (fun j hj => B47.out.block j (LT.out _ _ _ _ HT4.out j hj)))
  have HS7 := Lib.hid (show ∀ j, S0 j → w3.heap.size ≤ j ∧ j ≠ g11 ∧ j ≠ gm from fun j hj => by
    have h1 := LT.out _ _ _ _ HT4.out j hj
    have h2 := HG11.out
    have h3 := HGM.out
    exact ⟨HS4.out j hj, by omega, by omega⟩)
  have G7 := Lib.hid (show gm < w7.heap.size by have := SI.out.own.lt; omega)
  have G3 := Lib.hid (show w3.heap.size ≤ g11 by have := HB4.out.size; have := HG11.out; omega)
  have RQ := Lib.hid ((B37.out.block _ (lt_of_rowK R3.out)).trans R3.out)
  have IO := Lib.hid (XI.out o HOO.out e0.A e0.n e0.c)
  obtain ⟨CO, hCO⟩ : ∃ C, C = pktV o e0.A e0.n e0.c := ⟨_, rfl⟩
  have HCO := Lib.hid hCO
  rw [← hCO] at RO IO
  clear hCO A7 Q6 Z6 HB4 HT4 HS4 hmm B47
  go_wp2_with fail
  go_loopw [76] (fun u wr => ∃ j : Nat, j ≤ m ∧ u = .int .i64 j ∧ Below w3.heap.size w3 wr ∧ wr.heap[g11]? = some (.cells CO 28 (0, 0)) ∧ w7.heap.size ≤ wr.heap.size ∧ ∃ S st J D, Tb wr S t st ∧ (∀ j, S j → w3.heap.size ≤ j ∧ j ≠ g11 ∧ j ≠ gm) ∧ SetI wr gm j J D ∧ J.Nodup ∧ (∀ i ∈ J, i < n3) ∧ (J.length = n3 ∨ J.length < n3 ∧ st.room = 4 ∧ Pres (q, xs) 9 sz (o, e0.x) J st.l)) (fun u _ => m - (intOf u).toNat)
  case atStart => exact ⟨0, Nat.zero_le _, rfl, B37.out, RO.out, Nat.le_refl _, S0, _, [], _, HT7.out, HS7.out, SI.out, List.nodup_nil, by simp, .inr ⟨by have := N2.out; simp; omega, rfl, 0, 0, .inl ⟨rfl, .inl rfl⟩⟩⟩
  case round =>
    obtain ⟨j, hj, rfl, BW, RW, SZ, S, st, J, D, TW, SW, MW, JD, JB, JP⟩ := hrel
    have HBW := Lib.hid BW
    have HRW := Lib.hid RW
    have HTW := Lib.hid TW
    have HSW := Lib.hid SW
    have HMW := Lib.hid MW
    have HJD := Lib.hid JD
    have HJB := Lib.hid JB
    have HJP := Lib.hid JP
    have HSZ := Lib.hid SZ
    have Bww := Lib.hid (HB3.out.trans (HBW.out.mono HB3.out.size))
    clear BW RW TW SW MW JD JB JP SZ HT7 HS7 SI
    by_cases hlt : j < m
    rotate_left
    · have q6 : ¬ (j : Int) < (m : Int) := by omega
      clear hlt hj
      go_wp2_with (first
        | (go_at_call 7; (refine (AL.out _).mono ?_); rintro e w9 ⟨rfl, BB⟩
           have HB9 := Lib.hid (Bww.out.trans (BB.mono Bww.out.size))
           clear BB))
      go_ret
      exact ⟨rfl, HB9.out⟩
    have q6 : (j : Int) < (m : Int) := by omega
    obtain ⟨x, hxo, hx16⟩ : ∃ x : Nat, os.getD j 0 = (x : Int) ∧ x ≤ 65535 := by
      have h1 := HOY.out (os.getD j 0) (by
        have hl := HO.out.len
        rw [List.getD_eq_getElem?_getD, List.getElem?_eq_getElem (show j < os.length by omega)]
        exact List.getElem_mem _)
      exact ⟨(os.getD j 0).toNat, by omega, by omega⟩
    obtain ⟨bo, oo, hO, hbo, co⟩ := HO.out.at_ (by omega)
    have co2 : wr.cell? ⟨bo, oo + j, none⟩ = some (.int .u16 (x : Int)) := (Bww.out.cell (p := ⟨bo, oo + j, none⟩) hbo).trans ((co j hlt).trans (by rw [hxo]))
    obtain ⟨r, hr⟩ : ∃ r, r = x % (n3 + 1) := ⟨_, rfl⟩
    have hrem : (x : Int).tmod ((n3 : Int) + 1) = (r : Int) := by
      have : ((n3 : Int) + 1) = ((n3 + 1 : Nat) : Int) := by omega
      rw [this, hr]; rfl
    have hrl : r ≤ n3 := by rw [hr]; exact Nat.lt_succ_iff.1 (Nat.mod_lt _ (by omega))
    have wn : IntKind.i64.wrap ((n3 : Int) + 1) = (n3 : Int) + 1 := IntWalk.i64_in _ (by have := N2.out; omega)
    have wx : IntKind.i64.wrap (x : Int) = (x : Int) := IntWalk.i64_in _ (by omega)
    have nz : ¬ ((n3 : Int) + 1 = 0) := by omega
    have I0 : (0 : Int) ≤ (j : Int) := by omega
    have WJ := Lib.hid (show IntKind.i64.wrap ((j : Int) + 1) = (j : Int) + 1 from IntWalk.i64_in _ (by have := HM3.out; omega))
    have HLT := Lib.hid hlt
    have HRL := Lib.hid hrl
    subst hO
    clear hxo co hr hbo hlt hj hrl
    go_upto_region 17 with fail
    clear co2 hrem wn wx nz q6 I0 hx16
    by_cases hrn : r = n3
    · have q7b : ((r : Int) == (n3 : Int)) = true := by simp [hrn]
      have q7d : decide ((r : Int) = (n3 : Int)) = true := by simp [hrn]
      clear hrn
      have OC := AD.out wr S t st 0 o e0.A e0.n e0.c e0.x HTW.out (by decide) HOO.out (Ld.below HD0.out HBW.out HBW.out.size) (fun h0 k hk i' e' => by
        obtain ⟨b, ob, e2, hb, -⟩ := HD0.out.at_ h0
        rw [e'] at e2
        injection e2 with e2
        injection e2 with e2
        have := (HSW.out k hk).1
        omega) HO0.out.y HO0.out.nc HO0.out.cm (by
          have h1 : e0.x.length = e0.n := HD0.out.len
          have h2 := HP3.out.len
          have h3 := CU.out.len (show 0 < n3 by have := N2.out; omega)
          have h4 := congrArg (fun y : Pc => y.2.length) (PCS.out 0 e0 HE00.out)
          rw [h3] at h4
          have h5 : e0.pc.2.length = e0.x.length := rfl
          have h6 := CU.out.small
          have h7 : (q, xs).2.length = xs.length := rfl
          omega)
      rw [← HCO.out] at OC
      have OC := Lib.hid OC
      have wi := WJ.out
      go_wp2_with (first
        | (refine wpList_load_row rfl 28 (.tmp 11) rfl g11 rfl _ _ _ _ HRW.out Try.underlying28 rfl IO.out ?_)
        | (go_at_call 12; (refine OC.out.mono ?_); rintro e w8 ⟨A8, n8, c8, S8, rfl, N8, nc8, cm8, T8, G8, FF⟩
           have HF := Lib.hid FF
           have HT8 := Lib.hid T8
           have HG8 := Lib.hid G8
           clear FF N8 nc8 cm8 T8 G8))
      go_roundw
      case rel => exact ⟨j + 1, by have := HLT.out; omega, by go_num, HBW.out.trans (HF.out.to_below (B := w3.heap.size) (fun k hk => (HSW.out k hk).1) HBW.out.size), HF.out.row HRW.out (fun hk => (HSW.out _ hk).2.1 rfl), Nat.le_trans HSZ.out HF.out.size, S8, addT st 0 (o, e0.x), J, D, HT8.out, (fun k hk => by
          rcases HG8.out k hk with h | h
          · exact HSW.out k h
          · have h1 := HSZ.out
            have h2 := G7.out
            have h3 := G3.out
            have h4 := HGM.out
            exact ⟨by omega, by omega, by omega⟩), (HMW.out.mono (Nat.le_succ j)).same (HF.out.block _ HMW.out.own.lt (fun hk => (HSW.out _ hk).2.2 rfl)), HJD.out, HJB.out, by
          rcases HJP.out with h | ⟨h1, h2, h3⟩
          · exact .inl h
          · have h4 := step_other CU.out (o := (o, e0.x)) HOP.out HOW.out (st := st) (by omega) h3 0
            exact .inr ⟨h1, h4.1.trans h2, h4.2⟩⟩
      case measure => have := HLT.out; simp [intOf] <;> omega
    have q7b : ((r : Int) == (n3 : Int)) = false := by simp; omega
    have q7d : decide ((r : Int) = (n3 : Int)) = false := decide_eq_false (by omega)
    have HR := Lib.hid (show r < n3 by have := HRL.out; omega)
    clear hrn
    by_cases hJ : J.length = n3
    · have HMS := Lib.hid HMW.out.size
      have q8b : ((J.length : Int) == (n3 : Int)) = true := by simp [hJ]
      have q8d : decide ((J.length : Int) = (n3 : Int)) = true := by simp [hJ]
      clear hJ HJP
      go_wp2_with (first
        | (at_len; refine wpList_len_own _ rfl _ 42 rfl 3 4 Try.underlying42 _ gm j D rfl HMW.out.own ?_; rw [HMS.out])
        | (go_at_call 7; (refine (AL.out _).mono ?_); rintro e w9 ⟨rfl, BB⟩
           have HB9 := Lib.hid (Bww.out.trans (BB.mono Bww.out.size))
           clear BB))
      go_ret
      exact ⟨rfl, HB9.out⟩
    obtain ⟨hJl, hro, hpr⟩ : J.length < n3 ∧ st.room = 4 ∧ Pres (q, xs) 9 sz (o, e0.x) J st.l := by
      rcases HJP.out with h | h
      · exact absurd h hJ
      · exact h
    have SP := Lib.hid (step_piece CU.out QW.out QF.out QM.out HOP.out (st := st) (by omega) HJD.out HJB.out hJl hpr HR.out 0)
    have SR := Lib.hid hro
    have HMS := Lib.hid HMW.out.size
    have q8b : ((J.length : Int) == (n3 : Int)) = false := by simp; omega
    have q8d : decide ((J.length : Int) = (n3 : Int)) = false := decide_eq_false (by omega)
    have hkey : keyOf Try.prog 3 (.int .i64 (r : Int)) = some (.int .i64 (r : Int)) := keyOf_int_mk Try.underlying3 (WalkArith.wf_i64 (by have := N2.out; have := HR.out; omega))
    have HKY := Lib.hid hkey
    clear hJ HJP hJl hro hpr hkey
    go_upto_region 20 with (first
      | (at_len; refine wpList_len_own _ rfl _ 42 rfl 3 4 Try.underlying42 _ gm j D rfl HMW.out.own ?_; rw [HMS.out]))
    go_upto_region 21 with (first
      | (at_mapUpdate; refine wpList_mapUpdate_own _ rfl _ _ _ 42 rfl 3 4 int_law Try.underlying42 (plainElem Try.prog 4) gm j D rfl HMW.out.own (by have := HLT.out; have := HM3.out; unfold maxLen; omega) _ _ _ rfl rfl HKY.out _ [] (plainElem_bool Try.underlying4 true) ?_; intro w1 hown1 hgrow1
         have HOWN1 := Lib.hid hown1
         have HGROW1 := Lib.hid hgrow1
         clear hown1 hgrow1))
    clear q8b q8d q7b q7d
    have HM1 := Lib.hid (show SetI w1 gm (j + 1) (metN J r) _ from HMW.out.put r HOWN1.out)
    have B31 := Lib.hid (show Below w3.heap.size w3 w1 from HBW.out.trans ⟨HGROW1.out.os, HGROW1.out.tape, HGROW1.out.output, HGROW1.out.size, fun k hk => HGROW1.out.block k (by have := HBW.out.size; omega) (by have := G3.out; have := HGM.out; intro e; injection e with e; omega)⟩)
    have T1 := Lib.hid (KT.out wr w1 S t st HTW.out HGROW1.out.size (fun k hk => HGROW1.out.block k (LT.out _ _ _ _ HTW.out k hk) (by intro e; injection e with e; exact (HSW.out k hk).2.2 e)))
    have RW1 := Lib.hid ((HGROW1.out.block g11 (lt_of_rowK HRW.out) (by have := HGM.out; intro e; injection e with e; omega)).trans HRW.out)
    have SZ1 := Lib.hid (Nat.le_trans HSZ.out HGROW1.out.size)
    have R01 := Lib.hid ((B31.out.block _ (lt_of_rowK R3.out)).trans R3.out)
    clear HBW HTW HRW HMW HOWN1 HGROW1 HSZ Bww
    generalize hD1 : D.put (.int .i64 (r : Int)) (.lit (.bool true)) = D1 at *
    clear hD1
    obtain ⟨e, her⟩ : ∃ e, es[r]? = some e := ⟨es[r]'(by have := HL1.out; have := HR.out; omega), List.getElem?_eq_getElem _⟩
    have hpc := PCS.out r e her
    have me := List.mem_of_getElem? her
    have oe := HP3.out.ok e me
    have ld := HP3.out.ld e me
    have C1 := Lib.hid (show ∀ k v, e.cells[k]? = some v → w1.cell? ⟨b1, o1 + r * 41 + k, none⟩ = some v from fun k v hv => (B31.out.cell (p := ⟨b1, o1 + r * 41 + k, none⟩) HB1.out).trans (HC1.out r e her k v hv))
    have IEE := Lib.hid (pkt_size oe.p)
    have h7 : e.n ≤ 70000 := by
      have h1 : e.x.length = e.n := ld.len
      have h3 := CU.out.len HR.out
      have h4 := congrArg (fun y : Pc => y.2.length) hpc
      rw [h3] at h4
      have h5 : e.pc.2.length = e.x.length := rfl
      have h6 := CU.out.small
      have h7 : (q, xs).2.length = xs.length := rfl
      omega
    have AC := AD.out w1 S t st 0 e.p e.A e.n e.c e.x T1.out (by decide) oe.p (Ld.below ld B31.out B31.out.size) (fun h0 k hk i' e' => by
      obtain ⟨b, ob, e2, hb, -⟩ := ld.at_ h0
      rw [e'] at e2
      injection e2 with e2
      injection e2 with e2
      have := (HSW.out k hk).1
      omega) oe.y oe.nc oe.cm h7
    rw [show ((e.p, e.x) : Pc) = pieceP (q, xs) 9 sz (r * sz) from hpc, SP.out.1] at AC
    replace AC : Calls Try.prog 12 #[.pointer (some ⟨t, 0, none⟩), .int .i64 0, .agg e.cells.toArray] w1 (AddR Tb w1 S t (if (metN J r).length = n3 then ((wantP q, xs), true, 0) else (zPc, false, 0)) (addT st 0 (pieceP (q, xs) 9 sz (r * sz)))) := AC
    have SQ := Lib.hid SP.out.2
    have I0 : (0 : Int) ≤ (r : Int) := by omega
    have I5 : (r : Int) < (n3 : Int) := by have := HR.out; omega
    generalize addT st 0 (pieceP (q, xs) 9 sz (r * sz)) = st1 at *
    generalize e.cells = EC2 at *
    clear her hpc me oe ld h7 e SP
    by_cases hfull : (metN J r).length = n3
    · rw [if_pos hfull] at AC
      replace AC := Lib.hid AC
      have LQ := Lib.hid (show (((metN J r).length : Int) == (n3 : Int)) = true by simp; omega)
      have WQO := Lib.hid (wantP_ok QK.out)
      clear hfull
      go_upto_region 22 with (first
        | (refine pkC.wpList_load_partG (by kernel_rfl) 28 (.tmp 104) rfl b1 (o1 + r * 41) (by kernel_rfl) EC2 _ C1.out Try.underlying28 rfl IEE.out ?_)
        | (go_at_call 12; (refine AC.out.mono ?_); rintro e w8 ⟨A8, n8, c8, S8, rfl, N8, nc8, cm8, T8, G8, FF⟩
           have HF := Lib.hid FF
           have HN8 := Lib.hid N8
           have HT8 := Lib.hid T8
           have HG8 := Lib.hid G8
           clear FF N8 nc8 cm8 T8 G8)
        | (refine wpList_store_row rfl 28 (.tmp 16) (.tmp 107) rfl w8.heap.size (pktV (wantP q) A8 n8 c8) rfl rfl _ _ (heap_alloc_new _ _) (XI.out (wantP q) WQO.out A8 n8 c8) (XZ.out (wantP q) WQO.out A8 n8 c8) (XO.out (wantP q) A8 n8 c8) ?_; rw [World.setRow_alloc_new]))
      have B38 := Lib.hid (B31.out.trans (HF.out.to_below (B := w3.heap.size) (fun k hk => (HSW.out k hk).1) B31.out.size))
      have R8 := Lib.hid (HF.out.row RW1.out (fun hk => (HSW.out _ hk).2.1 rfl))
      have M8 := Lib.hid (HM1.out.same (HF.out.block _ HM1.out.own.lt (fun hk => (HSW.out _ hk).2.2 rfl)))
      have RE := Lib.hid (fun (w' : World) (h : Below w8.heap.size w8 w') => (show Below w3.heap.size w3 w' ∧ w'.heap[g11]? = some (.cells CO 28 (0, 0)) ∧ w7.heap.size ≤ w'.heap.size ∧ ∃ S st J D, Tb w' S t st ∧ (∀ j, S j → w3.heap.size ≤ j ∧ j ≠ g11 ∧ j ≠ gm) ∧ SetI w' gm (j + 1) J D ∧ J.Nodup ∧ (∀ i ∈ J, i < n3) ∧ (J.length = n3 ∨ J.length < n3 ∧ st.room = 4 ∧ Pres (q, xs) 9 sz (o, e0.x) J st.l) from
        ⟨B38.out.trans (h.mono B38.out.size), (h.block _ (lt_of_rowK R8.out)).trans R8.out, Nat.le_trans SZ1.out (Nat.le_trans HF.out.size h.size), S8, st1, metN J r, D1, KT.out w8 w' S8 t st1 HT8.out h.size (fun k hk => h.block k (LT.out _ _ _ _ HT8.out k hk)), (fun k hk => by
          rcases HG8.out k hk with h | h
          · exact HSW.out k h
          · have h1 := SZ1.out
            have h2 := G7.out
            have h3 := G3.out
            have h4 := HGM.out
            exact ⟨by omega, by omega, by omega⟩), M8.out.below h M8.out.own.lt, SQ.out.2.1, SQ.out.2.2.1, by
          rcases SQ.out.2.2.2 with h | ⟨h1, h2⟩
          · exact .inl h
          · exact .inr ⟨h1, SQ.out.1.trans SR.out, h2⟩⟩))
      obtain ⟨w9, hw9⟩ : ∃ W, W = w8.alloc (.cells (pktV (wantP q) A8 n8 c8) 28) := ⟨_, rfl⟩
      have BA9 := Lib.hid (show Below w8.heap.size w8 w9 by rw [hw9]; exact alloc_below _ _)
      have R16 := Lib.hid (show w9.heap[w8.heap.size]? = some (.cells (pktV (wantP q) A8 n8 c8) 28 (0, 0)) by rw [hw9]; exact heap_alloc_new _ _)
      rw [← hw9]
      clear hw9
      have KM := Lib.hid (fun (w' : World) (h : Gr w9 w') => (show SetI w' gm (j + 1) (metN J r) D1 from (M8.out.below BA9.out M8.out.own.lt).below h (M8.out.below BA9.out M8.out.own.lt).own.lt))
      have R0A := Lib.hid ((B38.out.trans (BA9.out.mono B38.out.size)).block _ (lt_of_rowK R3.out) |>.trans R3.out)
      have K0 := Lib.hid (fun (w' : World) (h : Gr w9 w') => (show w'.heap[w.heap.size]? = some (.cells CQ 28 (0, 0)) from (Below.block h _ (lt_of_rowK R0A.out)).trans R0A.out))
      have K16 := Lib.hid (fun (w' : World) (h : Gr w9 w') => (show w'.heap[w8.heap.size]? = some (.cells (pktV (wantP q) A8 n8 c8) 28 (0, 0)) from (Below.block h _ (lt_of_rowK R16.out)).trans R16.out))
      have WC := Lib.hid (fun (w' : World) (h : Gr w9 w') => (show Calls Try.prog 14 #[.agg CQ] w' (Ret w' (.agg (pktV (wantP q) A n c))) by rw [HCQ.out]; exact want_any q A n c w' QK.out))
      have B09 := Lib.hid (show Below w.heap.size w w9 from (HB3.out.trans (B38.out.mono HB3.out.size)).trans (BA9.out.mono (Nat.le_trans HB3.out.size B38.out.size)))
      have NX9 := Lib.hid (show Nums .u8 w9 w9.heap.size A n xs from (HX.out.below B09.out).more B09.out.size)
      have NY9 := Lib.hid (show Nums .u8 w9 w9.heap.size A8 n8 xs from (Nums.below (show Nums .u8 w8 w8.heap.size A8 n8 xs from HN8.out) BA9.out).more BA9.out.size)
      clear HN8
      have SMC := Lib.hid (fun (w' : World) (h : Gr w9 w') => same_one (wantP q) A8 A n8 n c8 c xs w' WQO.out (NY9.out.below h) (NX9.out.below h) (Below.size h) HYX.out)
      have IX := Lib.hid (XI.out (wantP q) WQO.out A8 n8 c8)
      generalize hCX : pktV (wantP q) A8 n8 c8 = CX at *
      generalize hCW : pktV (wantP q) A n c = CW at *
      obtain ⟨g16, hg16⟩ : ∃ g, g = w8.heap.size := ⟨_, rfl⟩
      rw [← hg16] at K16 ⊢
      have HKM := Lib.hid (show ∀ w', Gr w9 w' → SetI w' gm (j + 1) (metN J r) D1 from KM.out)
      generalize hLL : (metN J r).length = LL at *
      have KM := Lib.hid (fun (w' : World) (h : Gr w9 w') => (show w'.ownsMap Try.prog 3 (plainElem Try.prog 4) gm (j + 1) D1 ∧ Maps.size D1 = LL from ⟨(HKM.out w' h).own, (HKM.out w' h).size.trans hLL⟩))
      clear hg16 hLL HKM AC C1 IEE HF HT8 HG8 hzv I0 I5
      refine with_act fun a0 ha0 => ?_
      have hl : tuT.length = a0.tmps.size := by rw [ha0]; rfl
      have k18 : a0.tmps[18]?.getD undef = .int .i64 0 := by rw [ha0]; rfl
      have k17 : a0.tmps[17]?.getD undef = .bool true := by rw [ha0]; rfl
      have k12 : a0.tmps[12]?.getD undef = .map (some gm) := by rw [ha0]; rfl
      have k7 : a0.tmps[7]?.getD undef = .slice (some ⟨b1, o1, none⟩) n3 c3 := by rw [ha0]; rfl
      have k16 : a0.tmps[16]?.getD undef = .pointer (some ⟨g16, 0, none⟩) := by rw [ha0]; rfl
      have k3 : a0.tmps[3]?.getD undef = .pointer (some ⟨w.heap.size, 0, none⟩) := by rw [ha0]; rfl
      refine wp_region_vals (by kernel_rfl) tuT (by kernel_rfl) (by kernel_rfl) hl (fun i => a0.tmps[i + 110]?.getD undef) (by rw [ha0]; rfl) (Gr w9) (tuV w.heap.size g16 gm b1 o1 n3 c3 LL CQ CW CX) (show Gr _ _ from (Below.refl _ _).drew) (tuV.keep _ _ _ _ _ _ _ _ _ _ _) ⟨?_, ?_, ?_, ?_, ?_, ?_, ?_, ?_, ?_, ?_, ?_, ?_, ?_, ?_, ?_, ?_, ?_, ?_, ?_, ?_, ?_, trivial⟩ ?_
      · refine step_plain [] (by kernel_rfl) rfl fun us w' hG hV => ?_
        have o18 := (frame_old2 (us := us) (a := a0) (show (tuT[18]?).join = none from rfl)).trans k18
        generalize frame tuT a0 us = fr at *
        exact val_ok (v := .int .i64 0) (w' := w') (by go_simp) hG (Below.refl _ _) rfl
      · refine step_plain [0] (by kernel_rfl) rfl fun us w' hG hV => ?_
        have e0 : us 0 = .int .i64 0 := hV 0 (by simp)
        have v0 := (frame_at2 (us := us) hl (show (tuT[110]?).join = some 0 from rfl)).trans e0
        generalize frame tuT a0 us = fr at *
        exact val_ok (v := .bool false) (w' := w') (by go_simp) hG (Below.refl _ _) rfl
      · refine step_plain [1] (by kernel_rfl) rfl fun us w' hG hV => ?_
        have e1 : us 1 = .bool false := hV 1 (by simp)
        have v1 := (frame_at2 (us := us) hl (show (tuT[111]?).join = some 1 from rfl)).trans e1
        generalize frame tuT a0 us = fr at *
        exact val_ok (v := .bool false) (w' := w') (by go_simp) hG (Below.refl _ _) rfl
      · refine step_guard [2] (by kernel_rfl) (j := 2) (t := 112) (b := false) rfl (by simp) rfl hl rfl (fun v w h => h) fun us w' hG hV => ?_
        have o17 := (frame_old2 (us := us) (a := a0) (show (tuT[17]?).join = none from rfl)).trans k17
        generalize frame tuT a0 us = fr at *
        exact val_ok (v := .bool true) (w' := w') (by go_simp) hG (Below.refl _ _) rfl
      · refine step_guard [2] (by kernel_rfl) (j := 2) (t := 112) (b := false) rfl (by simp) rfl hl rfl (fun v w h => h) fun us w' hG hV => ?_
        have o12 := (frame_old2 (us := us) (a := a0) (show (tuT[12]?).join = none from rfl)).trans k12
        generalize frame tuT a0 us = fr at *
        exact val_ok (v := .map (some gm)) (w' := w') (by go_simp) hG (Below.refl _ _) rfl
      · refine step_guard [2, 4] (by kernel_rfl) (j := 2) (t := 112) (b := false) rfl (by simp) rfl hl rfl (fun v w h => h) fun us w' hG hV => ?_
        have e4 : us 4 = .map (some gm) := hV 4 (by simp)
        have v4 := (frame_at2 (us := us) hl (show (tuT[114]?).join = some 4 from rfl)).trans e4
        generalize frame tuT a0 us = fr at *
        exact val_ok (v := .int .i64 LL) (w' := w') (lenm_run (s := 114) rfl v4 Try.underlying42 (KM.out w' hG).1 (KM.out w' hG).2) hG (Below.refl _ _) rfl
      · refine step_guard [2] (by kernel_rfl) (j := 2) (t := 112) (b := false) rfl (by simp) rfl hl rfl (fun v w h => h) fun us w' hG hV => ?_
        have o7 := (frame_old2 (us := us) (a := a0) (show (tuT[7]?).join = none from rfl)).trans k7
        generalize frame tuT a0 us = fr at *
        exact val_ok (v := .slice (some ⟨b1, o1, none⟩) n3 c3) (w' := w') (by go_simp) hG (Below.refl _ _) rfl
      · refine step_guard [2, 6] (by kernel_rfl) (j := 2) (t := 112) (b := false) rfl (by simp) rfl hl rfl (fun v w h => h) fun us w' hG hV => ?_
        have e6 : us 6 = .slice (some ⟨b1, o1, none⟩) n3 c3 := hV 6 (by simp)
        have v6 := (frame_at2 (us := us) hl (show (tuT[116]?).join = some 6 from rfl)).trans e6
        generalize frame tuT a0 us = fr at *
        exact val_ok (v := .int .i64 n3) (w' := w') (by go_simp) hG (Below.refl _ _) rfl
      · refine step_guard [2, 5, 7] (by kernel_rfl) (j := 2) (t := 112) (b := false) rfl (by simp) rfl hl rfl (fun v w h => h) fun us w' hG hV => ?_
        have e5 : us 5 = .int .i64 LL := hV 5 (by simp)
        have v5 := (frame_at2 (us := us) hl (show (tuT[115]?).join = some 5 from rfl)).trans e5
        have e7 : us 7 = .int .i64 n3 := hV 7 (by simp)
        have v7 := (frame_at2 (us := us) hl (show (tuT[117]?).join = some 7 from rfl)).trans e7
        have hq := LQ.out
        generalize frame tuT a0 us = fr at *
        exact val_ok (v := .bool true) (w' := w') (by go_simp) hG (Below.refl _ _) rfl
      · refine step_guard [2, 3, 8] (by kernel_rfl) (j := 2) (t := 112) (b := false) rfl (by simp) rfl hl rfl (fun v w h => h) fun us w' hG hV => ?_
        have e3 : us 3 = .bool true := hV 3 (by simp)
        have v3 := (frame_at2 (us := us) hl (show (tuT[113]?).join = some 3 from rfl)).trans e3
        have e8 : us 8 = .bool true := hV 8 (by simp)
        have v8 := (frame_at2 (us := us) hl (show (tuT[118]?).join = some 8 from rfl)).trans e8
        generalize frame tuT a0 us = fr at *
        exact val_ok (v := .bool false) (w' := w') (by go_simp) hG (Below.refl _ _) rfl
      · refine step_plain [2, 9] (by kernel_rfl) rfl fun us w' hG hV => ?_
        have e2 : us 2 = .bool false := hV 2 (by simp)
        have v2 := (frame_at2 (us := us) hl (show (tuT[112]?).join = some 2 from rfl)).trans e2
        have e9 : us 9 = .bool false := hV 9 (by simp)
        have v9 := (frame_at2 (us := us) hl (show (tuT[119]?).join = some 9 from rfl)).trans e9
        generalize frame tuT a0 us = fr at *
        exact val_ok (v := .bool false) (w' := w') (by go_simp) hG (Below.refl _ _) rfl
      · refine step_plain [10] (by kernel_rfl) rfl fun us w' hG hV => ?_
        have e10 : us 10 = .bool false := hV 10 (by simp)
        have v10 := (frame_at2 (us := us) hl (show (tuT[120]?).join = some 10 from rfl)).trans e10
        generalize frame tuT a0 us = fr at *
        exact val_ok (v := .bool false) (w' := w') (by go_simp) hG (Below.refl _ _) rfl
      · refine step_guard [11] (by kernel_rfl) (j := 11) (t := 121) (b := false) rfl (by simp) rfl hl rfl (fun v w h => h) fun us w' hG hV => ?_
        have o17 := (frame_old2 (us := us) (a := a0) (show (tuT[17]?).join = none from rfl)).trans k17
        generalize frame tuT a0 us = fr at *
        exact val_ok (v := .bool true) (w' := w') (by go_simp) hG (Below.refl _ _) rfl
      · refine step_guard [11, 12] (by kernel_rfl) (j := 11) (t := 121) (b := false) rfl (by simp) rfl hl rfl (fun v w h => h) fun us w' hG hV => ?_
        have e12 : us 12 = .bool true := hV 12 (by simp)
        have v12 := (frame_at2 (us := us) hl (show (tuT[122]?).join = some 12 from rfl)).trans e12
        generalize frame tuT a0 us = fr at *
        exact val_ok (v := .bool true) (w' := w') (by go_simp) hG (Below.refl _ _) rfl
      · refine step_guard [13] (by kernel_rfl) (j := 13) (t := 123) (b := true) rfl (by simp) rfl hl rfl (fun v w h => h) fun us w' hG hV => ?_
        have o16 := (frame_old2 (us := us) (a := a0) (show (tuT[16]?).join = none from rfl)).trans k16
        have hg1 := (K16.out w' hG)
        generalize frame tuT a0 us = fr at *
        exact load_ok 28 16 rfl (g16) o16 _ _ (0, 0) _ hg1 Try.underlying28 rfl IX.out hG rfl
      · refine step_guard [13] (by kernel_rfl) (j := 13) (t := 123) (b := true) rfl (by simp) rfl hl rfl (fun v w h => h) fun us w' hG hV => ?_
        have o3 := (frame_old2 (us := us) (a := a0) (show (tuT[3]?).join = none from rfl)).trans k3
        have hg1 := (K0.out w' hG)
        generalize frame tuT a0 us = fr at *
        exact load_ok 28 3 rfl (w.heap.size) o3 _ _ (0, 0) _ hg1 Try.underlying28 rfl I2.out hG rfl
      · refine step_guard [13, 15] (by kernel_rfl) (j := 13) (t := 123) (b := true) rfl (by simp) rfl hl rfl (fun v w h => h) fun us w' hG hV => ?_
        have e15 : us 15 = .agg CQ := hV 15 (by simp)
        have v15 := (frame_at2 (us := us) hl (show (tuT[125]?).join = some 15 from rfl)).trans e15
        generalize frame tuT a0 us = fr at *
        exact call_ok (f := 14) (args := #[.agg CQ]) (by go_simp) ((WC.out w' hG).mono fun e w'' h => ⟨_, h.1, hG.below h.2, h.2, rfl⟩)
      · refine step_guard [13, 14, 16] (by kernel_rfl) (j := 13) (t := 123) (b := true) rfl (by simp) rfl hl rfl (fun v w h => h) fun us w' hG hV => ?_
        have e14 : us 14 = .agg CX := hV 14 (by simp)
        have v14 := (frame_at2 (us := us) hl (show (tuT[124]?).join = some 14 from rfl)).trans e14
        have e16 : us 16 = .agg CW := hV 16 (by simp)
        have v16 := (frame_at2 (us := us) hl (show (tuT[126]?).join = some 16 from rfl)).trans e16
        generalize frame tuT a0 us = fr at *
        exact call_ok (f := 13) (args := #[.agg CX, .agg CW]) (by go_simp) ((SMC.out w' hG).mono fun e w'' h => ⟨_, h.1, hG.below h.2, h.2, rfl⟩)
      · refine step_guard [13, 17] (by kernel_rfl) (j := 13) (t := 123) (b := true) rfl (by simp) rfl hl rfl (fun v w h => h) fun us w' hG hV => ?_
        have e17 : us 17 = .bool true := hV 17 (by simp)
        have v17 := (frame_at2 (us := us) hl (show (tuT[127]?).join = some 17 from rfl)).trans e17
        generalize frame tuT a0 us = fr at *
        exact val_ok (v := .bool false) (w' := w') (by go_simp) hG (Below.refl _ _) rfl
      · refine step_guard [11, 13, 18] (by kernel_rfl) (j := 11) (t := 121) (b := false) rfl (by simp) rfl hl rfl (fun v w h => h) fun us w' hG hV => ?_
        have e13 : us 13 = .bool true := hV 13 (by simp)
        have v13 := (frame_at2 (us := us) hl (show (tuT[123]?).join = some 13 from rfl)).trans e13
        have e18 : us 18 = .bool false := hV 18 (by simp)
        have v18 := (frame_at2 (us := us) hl (show (tuT[128]?).join = some 18 from rfl)).trans e18
        generalize frame tuT a0 us = fr at *
        exact val_ok (v := .bool false) (w' := w') (by go_simp) hG (Below.refl _ _) rfl
      · refine step_plain [11, 19] (by kernel_rfl) rfl fun us w' hG hV => ?_
        have e11 : us 11 = .bool false := hV 11 (by simp)
        have v11 := (frame_at2 (us := us) hl (show (tuT[121]?).join = some 11 from rfl)).trans e11
        have e19 : us 19 = .bool false := hV 19 (by simp)
        have v19 := (frame_at2 (us := us) hl (show (tuT[129]?).join = some 19 from rfl)).trans e19
        generalize frame tuT a0 us = fr at *
        exact val_ok (v := .bool false) (w' := w') (by go_simp) hG (Below.refl _ _) rfl
      · intro us w10 hG hV
        have e20 : us 20 = .bool false := hV 20 (by decide)
        subst ha0
        simp only [frame, tuT, fill]
        rw [e20]
        have HG := Lib.hid hG
        clear hV hl hG k18 k17 k12 k7 k16 k3 e20 KM LQ K16 K0 WC SMC IX
        have wi := WJ.out
        go_wp2_with fail
        go_roundw
        case rel => exact ⟨j + 1, by have := HLT.out; omega, by go_num, RE.out w10 (BA9.out.trans (Below.mono HG.out BA9.out.size))⟩
        case measure => have := HLT.out; simp [intOf] <;> omega
    · rw [if_neg hfull] at AC
      replace AC := Lib.hid AC
      have LQ := Lib.hid (show (((metN J r).length : Int) == (n3 : Int)) = false by simp; omega)
      have WQO := Lib.hid (wantP_ok QK.out)
      clear hfull
      go_upto_region 22 with (first
        | (refine pkC.wpList_load_partG (by kernel_rfl) 28 (.tmp 104) rfl b1 (o1 + r * 41) (by kernel_rfl) EC2 _ C1.out Try.underlying28 rfl IEE.out ?_)
        | (go_at_call 12; (refine AC.out.mono ?_); rintro e w8 ⟨A8, n8, c8, S8, rfl, N8, nc8, cm8, T8, G8, FF⟩
           have HF := Lib.hid FF
           have HN8 := Lib.hid N8
           have HT8 := Lib.hid T8
           have HG8 := Lib.hid G8
           clear FF N8 nc8 cm8 T8 G8)
        | (refine wpList_store_row rfl 28 (.tmp 16) (.tmp 107) rfl w8.heap.size (pktV zPkt A8 n8 c8) rfl rfl _ _ (heap_alloc_new _ _) (XI.out zPkt zPkt_okK A8 n8 c8) (XZ.out zPkt zPkt_okK A8 n8 c8) (XO.out zPkt A8 n8 c8) ?_; rw [World.setRow_alloc_new]))
      have B38 := Lib.hid (B31.out.trans (HF.out.to_below (B := w3.heap.size) (fun k hk => (HSW.out k hk).1) B31.out.size))
      have R8 := Lib.hid (HF.out.row RW1.out (fun hk => (HSW.out _ hk).2.1 rfl))
      have M8 := Lib.hid (HM1.out.same (HF.out.block _ HM1.out.own.lt (fun hk => (HSW.out _ hk).2.2 rfl)))
      have RE := Lib.hid (fun (w' : World) (h : Below w8.heap.size w8 w') => (show Below w3.heap.size w3 w' ∧ w'.heap[g11]? = some (.cells CO 28 (0, 0)) ∧ w7.heap.size ≤ w'.heap.size ∧ ∃ S st J D, Tb w' S t st ∧ (∀ j, S j → w3.heap.size ≤ j ∧ j ≠ g11 ∧ j ≠ gm) ∧ SetI w' gm (j + 1) J D ∧ J.Nodup ∧ (∀ i ∈ J, i < n3) ∧ (J.length = n3 ∨ J.length < n3 ∧ st.room = 4 ∧ Pres (q, xs) 9 sz (o, e0.x) J st.l) from
        ⟨B38.out.trans (h.mono B38.out.size), (h.block _ (lt_of_rowK R8.out)).trans R8.out, Nat.le_trans SZ1.out (Nat.le_trans HF.out.size h.size), S8, st1, metN J r, D1, KT.out w8 w' S8 t st1 HT8.out h.size (fun k hk => h.block k (LT.out _ _ _ _ HT8.out k hk)), (fun k hk => by
          rcases HG8.out k hk with h | h
          · exact HSW.out k h
          · have h1 := SZ1.out
            have h2 := G7.out
            have h3 := G3.out
            have h4 := HGM.out
            exact ⟨by omega, by omega, by omega⟩), M8.out.below h M8.out.own.lt, SQ.out.2.1, SQ.out.2.2.1, by
          rcases SQ.out.2.2.2 with h | ⟨h1, h2⟩
          · exact .inl h
          · exact .inr ⟨h1, SQ.out.1.trans SR.out, h2⟩⟩))
      obtain ⟨w9, hw9⟩ : ∃ W, W = w8.alloc (.cells (pktV zPkt A8 n8 c8) 28) := ⟨_, rfl⟩
      have BA9 := Lib.hid (show Below w8.heap.size w8 w9 by rw [hw9]; exact alloc_below _ _)
      have R16 := Lib.hid (show w9.heap[w8.heap.size]? = some (.cells (pktV zPkt A8 n8 c8) 28 (0, 0)) by rw [hw9]; exact heap_alloc_new _ _)
      rw [← hw9]
      clear hw9
      have KM := Lib.hid (fun (w' : World) (h : Gr w9 w') => (show SetI w' gm (j + 1) (metN J r) D1 from (M8.out.below BA9.out M8.out.own.lt).below h (M8.out.below BA9.out M8.out.own.lt).own.lt))
      generalize hCX : pktV zPkt A8 n8 c8 = CX at *
      obtain ⟨g16, hg16⟩ : ∃ g, g = w8.heap.size := ⟨_, rfl⟩
      rw [← hg16]
      have HKM := Lib.hid (show ∀ w', Gr w9 w' → SetI w' gm (j + 1) (metN J r) D1 from KM.out)
      generalize hLL : (metN J r).length = LL at *
      have KM := Lib.hid (fun (w' : World) (h : Gr w9 w') => (show w'.ownsMap Try.prog 3 (plainElem Try.prog 4) gm (j + 1) D1 ∧ Maps.size D1 = LL from ⟨(HKM.out w' h).own, (HKM.out w' h).size.trans hLL⟩))
      clear hg16 hLL HKM AC C1 IEE HF HT8 HG8 hzv I0 I5
      refine with_act fun a0 ha0 => ?_
      have hl : tvT.length = a0.tmps.size := by rw [ha0]; rfl
      have k18 : a0.tmps[18]?.getD undef = .int .i64 0 := by rw [ha0]; rfl
      have k17 : a0.tmps[17]?.getD undef = .bool false := by rw [ha0]; rfl
      have k12 : a0.tmps[12]?.getD undef = .map (some gm) := by rw [ha0]; rfl
      have k7 : a0.tmps[7]?.getD undef = .slice (some ⟨b1, o1, none⟩) n3 c3 := by rw [ha0]; rfl
      refine wp_region_vals (by kernel_rfl) tvT (by kernel_rfl) (by kernel_rfl) hl (fun i => a0.tmps[i + 110]?.getD undef) (by rw [ha0]; rfl) (Gr w9) (tvV gm b1 o1 n3 c3 LL) (show Gr _ _ from (Below.refl _ _).drew) (tvV.keep _ _ _ _ _ _) ⟨?_, ?_, ?_, ?_, ?_, ?_, ?_, ?_, ?_, ?_, ?_, ?_, ?_, ?_, ?_, ?_, ?_, ?_, ?_, ?_, ?_, trivial⟩ ?_
      · refine step_plain [] (by kernel_rfl) rfl fun us w' hG hV => ?_
        have o18 := (frame_old2 (us := us) (a := a0) (show (tvT[18]?).join = none from rfl)).trans k18
        generalize frame tvT a0 us = fr at *
        exact val_ok (v := .int .i64 0) (w' := w') (by go_simp) hG (Below.refl _ _) rfl
      · refine step_plain [0] (by kernel_rfl) rfl fun us w' hG hV => ?_
        have e0 : us 0 = .int .i64 0 := hV 0 (by simp)
        have v0 := (frame_at2 (us := us) hl (show (tvT[110]?).join = some 0 from rfl)).trans e0
        generalize frame tvT a0 us = fr at *
        exact val_ok (v := .bool false) (w' := w') (by go_simp) hG (Below.refl _ _) rfl
      · refine step_plain [1] (by kernel_rfl) rfl fun us w' hG hV => ?_
        have e1 : us 1 = .bool false := hV 1 (by simp)
        have v1 := (frame_at2 (us := us) hl (show (tvT[111]?).join = some 1 from rfl)).trans e1
        generalize frame tvT a0 us = fr at *
        exact val_ok (v := .bool false) (w' := w') (by go_simp) hG (Below.refl _ _) rfl
      · refine step_guard [2] (by kernel_rfl) (j := 2) (t := 112) (b := false) rfl (by simp) rfl hl rfl (fun v w h => h) fun us w' hG hV => ?_
        have o17 := (frame_old2 (us := us) (a := a0) (show (tvT[17]?).join = none from rfl)).trans k17
        generalize frame tvT a0 us = fr at *
        exact val_ok (v := .bool false) (w' := w') (by go_simp) hG (Below.refl _ _) rfl
      · refine step_guard [2] (by kernel_rfl) (j := 2) (t := 112) (b := false) rfl (by simp) rfl hl rfl (fun v w h => h) fun us w' hG hV => ?_
        have o12 := (frame_old2 (us := us) (a := a0) (show (tvT[12]?).join = none from rfl)).trans k12
        generalize frame tvT a0 us = fr at *
        exact val_ok (v := .map (some gm)) (w' := w') (by go_simp) hG (Below.refl _ _) rfl
      · refine step_guard [2, 4] (by kernel_rfl) (j := 2) (t := 112) (b := false) rfl (by simp) rfl hl rfl (fun v w h => h) fun us w' hG hV => ?_
        have e4 : us 4 = .map (some gm) := hV 4 (by simp)
        have v4 := (frame_at2 (us := us) hl (show (tvT[114]?).join = some 4 from rfl)).trans e4
        generalize frame tvT a0 us = fr at *
        exact val_ok (v := .int .i64 LL) (w' := w') (lenm_run (s := 114) rfl v4 Try.underlying42 (KM.out w' hG).1 (KM.out w' hG).2) hG (Below.refl _ _) rfl
      · refine step_guard [2] (by kernel_rfl) (j := 2) (t := 112) (b := false) rfl (by simp) rfl hl rfl (fun v w h => h) fun us w' hG hV => ?_
        have o7 := (frame_old2 (us := us) (a := a0) (show (tvT[7]?).join = none from rfl)).trans k7
        generalize frame tvT a0 us = fr at *
        exact val_ok (v := .slice (some ⟨b1, o1, none⟩) n3 c3) (w' := w') (by go_simp) hG (Below.refl _ _) rfl
      · refine step_guard [2, 6] (by kernel_rfl) (j := 2) (t := 112) (b := false) rfl (by simp) rfl hl rfl (fun v w h => h) fun us w' hG hV => ?_
        have e6 : us 6 = .slice (some ⟨b1, o1, none⟩) n3 c3 := hV 6 (by simp)
        have v6 := (frame_at2 (us := us) hl (show (tvT[116]?).join = some 6 from rfl)).trans e6
        generalize frame tvT a0 us = fr at *
        exact val_ok (v := .int .i64 n3) (w' := w') (by go_simp) hG (Below.refl _ _) rfl
      · refine step_guard [2, 5, 7] (by kernel_rfl) (j := 2) (t := 112) (b := false) rfl (by simp) rfl hl rfl (fun v w h => h) fun us w' hG hV => ?_
        have e5 : us 5 = .int .i64 LL := hV 5 (by simp)
        have v5 := (frame_at2 (us := us) hl (show (tvT[115]?).join = some 5 from rfl)).trans e5
        have e7 : us 7 = .int .i64 n3 := hV 7 (by simp)
        have v7 := (frame_at2 (us := us) hl (show (tvT[117]?).join = some 7 from rfl)).trans e7
        have hq := LQ.out
        generalize frame tvT a0 us = fr at *
        exact val_ok (v := .bool false) (w' := w') (by go_simp) hG (Below.refl _ _) rfl
      · refine step_guard [2, 3, 8] (by kernel_rfl) (j := 2) (t := 112) (b := false) rfl (by simp) rfl hl rfl (fun v w h => h) fun us w' hG hV => ?_
        have e3 : us 3 = .bool false := hV 3 (by simp)
        have v3 := (frame_at2 (us := us) hl (show (tvT[113]?).join = some 3 from rfl)).trans e3
        have e8 : us 8 = .bool false := hV 8 (by simp)
        have v8 := (frame_at2 (us := us) hl (show (tvT[118]?).join = some 8 from rfl)).trans e8
        generalize frame tvT a0 us = fr at *
        exact val_ok (v := .bool false) (w' := w') (by go_simp) hG (Below.refl _ _) rfl
      · refine step_plain [2, 9] (by kernel_rfl) rfl fun us w' hG hV => ?_
        have e2 : us 2 = .bool false := hV 2 (by simp)
        have v2 := (frame_at2 (us := us) hl (show (tvT[112]?).join = some 2 from rfl)).trans e2
        have e9 : us 9 = .bool false := hV 9 (by simp)
        have v9 := (frame_at2 (us := us) hl (show (tvT[119]?).join = some 9 from rfl)).trans e9
        generalize frame tvT a0 us = fr at *
        exact val_ok (v := .bool false) (w' := w') (by go_simp) hG (Below.refl _ _) rfl
      · refine step_plain [10] (by kernel_rfl) rfl fun us w' hG hV => ?_
        have e10 : us 10 = .bool false := hV 10 (by simp)
        have v10 := (frame_at2 (us := us) hl (show (tvT[120]?).join = some 10 from rfl)).trans e10
        generalize frame tvT a0 us = fr at *
        exact val_ok (v := .bool false) (w' := w') (by go_simp) hG (Below.refl _ _) rfl
      · refine step_guard [11] (by kernel_rfl) (j := 11) (t := 121) (b := false) rfl (by simp) rfl hl rfl (fun v w h => h) fun us w' hG hV => ?_
        have o17 := (frame_old2 (us := us) (a := a0) (show (tvT[17]?).join = none from rfl)).trans k17
        generalize frame tvT a0 us = fr at *
        exact val_ok (v := .bool false) (w' := w') (by go_simp) hG (Below.refl _ _) rfl
      · refine step_guard [11, 12] (by kernel_rfl) (j := 11) (t := 121) (b := false) rfl (by simp) rfl hl rfl (fun v w h => h) fun us w' hG hV => ?_
        have e12 : us 12 = .bool false := hV 12 (by simp)
        have v12 := (frame_at2 (us := us) hl (show (tvT[122]?).join = some 12 from rfl)).trans e12
        generalize frame tvT a0 us = fr at *
        exact val_ok (v := .bool false) (w' := w') (by go_simp) hG (Below.refl _ _) rfl
      · refine step_condK [13] (by kernel_rfl) (j := 13) (t := 123) rfl (by simp) rfl hl rfl false (fun v w h => h) (fun _ w => trivial) fun hc => by cases hc
      · refine step_condK [13] (by kernel_rfl) (j := 13) (t := 123) rfl (by simp) rfl hl rfl false (fun v w h => h) (fun _ w => trivial) fun hc => by cases hc
      · refine step_condK [13] (by kernel_rfl) (j := 13) (t := 123) rfl (by simp) rfl hl rfl false (fun v w h => h) (fun _ w => trivial) fun hc => by cases hc
      · refine step_condK [13] (by kernel_rfl) (j := 13) (t := 123) rfl (by simp) rfl hl rfl false (fun v w h => h) (fun _ w => trivial) fun hc => by cases hc
      · refine step_condK [13] (by kernel_rfl) (j := 13) (t := 123) rfl (by simp) rfl hl rfl false (fun v w h => h) (fun _ w => trivial) fun hc => by cases hc
      · refine step_guard [11, 13] (by kernel_rfl) (j := 11) (t := 121) (b := false) rfl (by simp) rfl hl rfl (fun v w h => h) fun us w' hG hV => ?_
        have e13 : us 13 = .bool false := hV 13 (by simp)
        have v13 := (frame_at2 (us := us) hl (show (tvT[123]?).join = some 13 from rfl)).trans e13
        generalize frame tvT a0 us = fr at *
        exact val_ok (v := .bool false) (w' := w') (by go_simp) hG (Below.refl _ _) rfl
      · refine step_plain [11, 19] (by kernel_rfl) rfl fun us w' hG hV => ?_
        have e11 : us 11 = .bool false := hV 11 (by simp)
        have v11 := (frame_at2 (us := us) hl (show (tvT[121]?).join = some 11 from rfl)).trans e11
        have e19 : us 19 = .bool false := hV 19 (by simp)
        have v19 := (frame_at2 (us := us) hl (show (tvT[129]?).join = some 19 from rfl)).trans e19
        generalize frame tvT a0 us = fr at *
        exact val_ok (v := .bool false) (w' := w') (by go_simp) hG (Below.refl _ _) rfl
      · intro us w10 hG hV
        have e20 : us 20 = .bool false := hV 20 (by decide)
        subst ha0
        simp only [frame, tvT, fill]
        rw [e20]
        have HG := Lib.hid hG
        clear hV hl hG k18 k17 k12 k7  e20 KM LQ
        have wi := WJ.out
        go_wp2_with fail
        go_roundw
        case rel => exact ⟨j + 1, by have := HLT.out; omega, by go_num, RE.out w10 (BA9.out.trans (Below.mono HG.out BA9.out.size))⟩
        case measure => have := HLT.out; simp [intOf] <;> omega
end Go.Proofs.Ytcnnpfjommiafaa.fgC

/-
  How the arguments of a statement are opened: an array of numbers, a slice of numbers.
-/
namespace Go.Proofs.Ytcnnpfjommiafaa.openC
open Go.ChangeShapes Go.WideShapes Go.ChangeAt Go.RowKit
set_option linter.unusedVariables false
variable {H : Type} {enc : TypeId × Value → H} {P : Program} {w : World} {base : Nat} {spare : Nat → Bool} {held : Bool}

theorem list2 {α : Type} {l : List α} (h : l.length = 2) : ∃ a b, l = [a, b] := by
  match l, h with
  | [a, b], _ => exact ⟨a, b, rfl⟩
theorem list3 {α : Type} {l : List α} (h : l.length = 3) : ∃ a b c, l = [a, b, c] := by
  match l, h with
  | [a, b, c], _ => exact ⟨a, b, c, rfl⟩
theorem list4 {α : Type} {l : List α} (h : l.length = 4) : ∃ a b c d, l = [a, b, c, d] := by
  match l, h with
  | [a, b, c, d], _ => exact ⟨a, b, c, d, rfl⟩
theorem open_array_ints {r : Reach} {b0 : Nat} {t e : TypeId} {n : Nat} {k : IntKind} {v : Value} {d : DataW H} {ps : List MemPlace} (ht : P.underlying t = some (.array n e)) (he : P.underlying e = some (.int k))
    (hce : P.cellsOf e = 1) (hct : P.cellsOf t = n) (hval : Value.okWide P w r b0 t v) (hd : DataW.Trod enc P w base spare held t v d ps) :
    ∃ zs : List Int, zs.length = n ∧ v = .agg (zs.map (Value.int k)).toArray ∧ ∀ x ∈ zs, (Lit.int k x).wf = true := by
  obtain ⟨cs, rfl, hsz, _⟩ : ∃ cs, v = .agg cs ∧ cs.size = P.cellsOf t ∧ Row.okWide P w r b0 t cs := by
    simpa [Value.okWide, ht] using hval
  obtain ⟨l⟩ := cs
  rw [hct] at hsz
  obtain ⟨fuel, hf⟩ := hd
  obtain ⟨xs, m, rfl, _, hl, hxl, hx⟩ := DataW.trod_array ht hf
  rw [hce] at hx
  have hsz' : l.length = n := by simpa using hsz
  have key : ∀ i, (hi : i < n) → ∃ z, l[i]? = some (.int k z) ∧ (Lit.int k z).wf = true := by
    intro i hi
    have h1 := hx i hi
    have hxi : xs[i]? = some (xs[i]'(by omega)) := List.getElem?_eq_getElem _
    rw [hxi] at h1
    obtain ⟨z, h2, _, h3⟩ := DataW.trod_int he h1
    refine ⟨z, ?_, h3⟩
    have h4 : ((Value.agg { toList := l }).cells.toList.drop (i * 1)).take 1 = [Value.int k z] := h2
    have h5 : (Value.agg { toList := l }).cells.toList = l := by simp [Value.cells]
    rw [h5, Nat.mul_one] at h4
    have h6 := congrArg (fun q => q[0]?) h4
    simpa using h6
  refine ⟨l.map fun v => match v with | .int _ z => z | _ => 0, by simpa using hsz', ?_, ?_⟩
  · congr 1
    simp only [List.map_map]
    congr 1
    apply List.ext_getElem?
    intro i
    by_cases hi : i < n
    · obtain ⟨z, hz, _⟩ := key i hi
      rw [List.getElem?_map, hz]; rfl
    · rw [List.getElem?_eq_none (by omega), List.getElem?_eq_none (by simp; omega)]
  · intro x hx
    obtain ⟨v, hv, rfl⟩ := List.mem_map.1 hx
    obtain ⟨i, hi, rfl⟩ := List.getElem_of_mem hv
    obtain ⟨z, hz, hw⟩ := key i (by omega)
    rw [List.getElem?_eq_getElem hi] at hz
    obtain hz := Option.some.inj hz
    rw [hz]; exact hw
/-- a slice of numbers that came in: of no number, or a row of cells -/
theorem open_slice_ints {r : Reach} {b0 : Nat} {t e : TypeId} {k : IntKind} {v : Value} {d : DataW H} {ps : List MemPlace} (ht : P.underlying t = some (.slice e)) (he : P.underlying e = some (.int k))
    (hce : P.cellsOf e = 1) (hsp : ∀ b, spare b = true) (hval : Value.okWide P w r b0 t v) (hd : DataW.Trod enc P w base spare held t v d ps) :
    (∃ a cap, v = .slice a 0 cap) ∨
    ∃ (b off len cap : Nat) (zs : List Int), v = .slice (some ⟨b, off, none⟩) len cap ∧ len ≤ cap ∧ cap ≤ maxLen ∧ zs.length = len ∧ (∀ i, i < len → w.cell? ⟨b, off + i, none⟩ = some (.int k (zs.getD i 0))) ∧ ∀ n ∈ zs, (Lit.int k n).wf = true := by
  obtain ⟨a, len, cap, rfl⟩ := okWide_slice ht hval
  obtain ⟨fuel, hf⟩ := hd
  rcases open_ints ht he hce hf with ⟨hcs, _⟩ | ⟨x, l, c, zs, hcs, _, hl, hm, hz, _, hcell, hwz⟩
  · simp [Value.cells] at hcs
    obtain ⟨rfl, rfl, rfl⟩ := hcs
    exact .inl ⟨_, _, rfl⟩
  · simp [Value.cells] at hcs
    obtain ⟨rfl, rfl, rfl⟩ := hcs
    by_cases h0 : len = 0
    · subst h0; exact .inl ⟨_, _, rfl⟩
    · rw [hsp, if_pos rfl] at hz
      obtain ⟨b, off, spot⟩ := x
      have hc := hcell 0 (by omega)
      have hspot : spot = none := by simpa [Addr.add] using World.cell?_spot hc
      subst hspot
      refine .inr ⟨b, off, len, cap, zs.take len, rfl, hl, hm, by simp; omega, ?_, fun n hn => hwz n (List.mem_of_mem_take hn)⟩
      intro i hi
      have h1 := hcell i (by omega)
      have h2 : (zs.take len).getD i 0 = zs.getD i 0 := by simp [List.getD_eq_getElem?_getD, hi]
      rw [h2]
      have e : (Addr.add ⟨b, off, none⟩ i) = (⟨b, off + i, none⟩ : Addr) := by
        unfold Addr.add; split
        · rename_i hi0; subst hi0; rfl
        · rfl
      rw [e] at h1; exact h1
end Go.Proofs.Ytcnnpfjommiafaa.openC
