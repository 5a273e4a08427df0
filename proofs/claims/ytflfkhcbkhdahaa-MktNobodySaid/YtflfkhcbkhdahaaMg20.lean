/-
  2 texts of a proof, joined.
-/
import Derived.Test.YtflfkhcbkhdahaaMg19
import Derived.Test.YtflfkhcbkhdahaaMg4
import Derived.Test.YtflfkhcbkhdahaaMg1
import Derived.ProofKit
import Derived.Outline
import Derived.Deep.QuietTactic
import Derived.BigQuiet
import Derived.Lib.Hide
import Derived.IntWalk

/-
  The first port that is one; a pair that two key tuples govern, if there is one.
-/
namespace Go.Proofs.Ytflfkhcbkhdahaa.mkC
open Go.ChangeShapes Go.WideShapes Go.ChangeAt Go.RowKit
open Go.Proofs.Ytflfkhcbkhdahaa.memC Go.Proofs.Ytflfkhcbkhdahaa.genC Go.Proofs.Ytflfkhcbkhdahaa.butC Go.Proofs.Ytflfkhcbkhdahaa.freeC Go.Proofs.Ytflfkhcbkhdahaa.adC Go.Proofs.Ytflfkhcbkhdahaa.rtC
set_option linter.unusedVariables false
def orP (x y : Int) : Int := if x = 0 then y else x
set_option maxRecDepth 100000 in
theorem cor16_w (a b : Int) (g : Nat) (w : World) (h : w.heap[g]? = some (.cells #[.int .u16 a, .int .u16 b] 26 (0, 0))) :
    Calls Try.prog 61 #[.slice (some ⟨g, 0, none⟩) 2 2] w fun e w' => e = .returned (.int .u16 (orP a b)) ∧ w = w' := by
  unfold orP
  have c0 : w.cell? ⟨g, 0, none⟩ = some (.int .u16 a) := by rw [cell_of_row w g 0 _ _ (0, 0) h]; rfl
  have c1 : w.cell? ⟨g, 1, none⟩ = some (.int .u16 b) := by rw [cell_of_row w g 1 _ _ (0, 0) h]; rfl
  clear h
  go_enter Try.func61, Try.ntmps61
  go_wp2_with fail
  go_loop [8] (fun i => ∃ k : Nat, k ≤ 2 ∧ i = .int .i64 k ∧ (1 ≤ k → a = 0) ∧ (2 ≤ k → b = 0)) (fun i => 2 - (intOf i).toNat)
  case atStart => exact ⟨0, by omega, rfl, by omega, by omega⟩
  case round =>
    obtain ⟨k, hk, rfl, h1, h2⟩ := hrel
    match k, hk with
    | 0, _ =>
      by_cases ha : a = 0
      · subst ha
        clear h1 h2
        go_wp2_with fail
        go_round
        case rel => exact ⟨1, by omega, rfl, by simp, by omega⟩
        case measure => simp [intOf]
      · have q : (a == 0) = false := beq_eq_false_iff_ne.2 ha
        clear h1 h2
        go_wp2_with fail
        go_ret
        exact ⟨by first | rfl | rw [if_neg ha], rfl⟩
    | 1, _ =>
      obtain rfl := h1 (by omega)
      by_cases hb : b = 0
      · subst hb
        clear h1 h2
        go_wp2_with fail
        go_round
        case rel => exact ⟨2, by omega, rfl, by simp, by simp⟩
        case measure => simp [intOf]
      · have q : (b == 0) = false := beq_eq_false_iff_ne.2 hb
        clear h1 h2
        go_wp2_with fail
        go_ret
        exact ⟨rfl, rfl⟩
    | 2, _ =>
      obtain rfl := h1 (by omega)
      obtain rfl := h2 (by omega)
      clear h1 h2
      go_wp2_with fail
      go_ret
      exact ⟨rfl, rfl⟩
theorem cor16_any (a b : Int) (g : Nat) (w : World) (h : w.heap[g]? = some (.cells #[.int .u16 a, .int .u16 b] 26 (0, 0))) : Calls Try.prog 61 #[.slice (some ⟨g, 0, none⟩) 2 2] w (Ret w (.int .u16 (orP a b))) :=
  (cor16_w a b g w h).mono fun e w' h => ⟨h.1, h.2 ▸ Below.refl _ _⟩
/-! ### ends and pairs as they are built -/
def enV (s : Bool) (a : List Int) (x : Int) : Array Value := (adrK s a ++ [Value.int .u16 x]).toArray
theorem end_built1 (x : Int) : Try.prog.built 28 [(1, .int .u16 x)] = some (enV false (zs 16) x) := by kernel_rfl
theorem end_built20 (s : Bool) (a0 a1 a2 a3 a4 a5 a6 a7 a8 a9 a10 a11 a12 a13 a14 a15 x : Int) : Try.prog.built 28 [(0, .agg (adrK s [a0, a1, a2, a3, a4, a5, a6, a7, a8, a9, a10, a11, a12, a13, a14, a15]).toArray), (1, .int .u16 x)] = some (enV s [a0, a1, a2, a3, a4, a5, a6, a7, a8, a9, a10, a11, a12, a13, a14, a15] x) := by kernel_rfl
theorem end_built2 (s : Bool) {a : List Int} (x : Int) (h : a.length = 16) : Try.prog.built 28 [(0, .agg (adrK s a).toArray), (1, .int .u16 x)] = some (enV s a x) := by
  obtain ⟨a0, a1, a2, a3, a4, a5, a6, a7, a8, a9, a10, a11, a12, a13, a14, a15, rfl⟩ := len16M h
  exact end_built20 _ _ _ _ _ _ _ _ _ _ _ _ _ _ _ _ _ _
set_option maxRecDepth 100000 in
theorem pr_built0 (s s' : Bool) (a0 a1 a2 a3 a4 a5 a6 a7 a8 a9 a10 a11 a12 a13 a14 a15 x b0 b1 b2 b3 b4 b5 b6 b7 b8 b9 b10 b11 b12 b13 b14 b15 y : Int) : Try.prog.built 30 [(0, .agg (enV s [a0, a1, a2, a3, a4, a5, a6, a7, a8, a9, a10, a11, a12, a13, a14, a15] x)), (1, .agg (enV s' [b0, b1, b2, b3, b4, b5, b6, b7, b8, b9, b10, b11, b12, b13, b14, b15] y))] = some (prV ⟨s, [a0, a1, a2, a3, a4, a5, a6, a7, a8, a9, a10, a11, a12, a13, a14, a15], x, s', [b0, b1, b2, b3, b4, b5, b6, b7, b8, b9, b10, b11, b12, b13, b14, b15], y⟩) := by kernel_rfl
theorem pr_built {p : Pr} (h : p.Ok) : Try.prog.built 30 [(0, .agg (enV p.ls p.la p.lport)), (1, .agg (enV p.rs p.ra p.rport))] = some (prV p) := by
  obtain ⟨a0, a1, a2, a3, a4, a5, a6, a7, a8, a9, a10, a11, a12, a13, a14, a15, ha⟩ := len16M h.ll
  obtain ⟨b0, b1, b2, b3, b4, b5, b6, b7, b8, b9, b10, b11, b12, b13, b14, b15, hb⟩ := len16M h.lr
  cases p
  simp only at ha hb
  subst ha
  subst hb
  exact pr_built0 _ _ _ _ _ _ _ _ _ _ _ _ _ _ _ _ _ _ _ _ _ _ _ _ _ _ _ _ _ _ _ _ _ _ _ _
def zPr : Pr := ⟨false, zs 16, 0, false, zs 16, 0⟩
theorem zPr_ok : zPr.Ok := ⟨zs_len 16, zs_len 16, zsByte 16, zsByte 16, by unfold zPr; simp, by unfold zPr; simp⟩
set_option maxRecDepth 100000 in
theorem zpr_info : (Try.prog.info? 30).map (·.zero) = some (some (.agg (prV zPr))) := by kernel_rfl
theorem zeroPr (w : World) : (zeroValue 30).run Try.prog w = .ok (.agg (prV zPr)) w := by
  obtain ⟨i, hi, hz⟩ := Option.map_eq_some_iff.1 zpr_info
  simp [zeroValue, typeInfo, hi, hz]
theorem prV_size {p : Pr} (h : p.Ok) : (prV p).size = 36 := by unfold prV; rw [List.size_toArray, prL_len h]
theorem prV_one (p : Pr) : (prV p).all (·.oneCell') = true := by
  unfold prV
  rw [List.all_toArray]
  refine List.all_eq_true.2 fun u hu => ?_
  unfold prL at hu
  rcases List.mem_append.1 hu with hu | hu
  · exact adrKo _ _ u hu
  · rcases List.mem_cons.1 hu with rfl | hu
    · rfl
    · rcases List.mem_append.1 hu with hu | hu
      · exact adrKo _ _ u hu
      · rw [List.mem_singleton.1 hu]; rfl
section
variable {P : Program} {fr : Act} {o : Oper} {w : World} {T : TypeId}
theorem built1_M {i : Nat} {s : Tmp} {v : Value} {C : Array Value} (ho : o.op = .build T #[(i, .tmp s)]) (h : fr.tmps[s]?.getD undef = v) (hb : P.built T [(i, v)] = some C) : (execOp fr.eval o).run P w = .ok (.value (.agg C)) w :=
  built_runM ho (by simp only [List.map_cons, List.map_nil, ev_tmpM h]) hb
theorem built2_M {i j : Nat} {s x : Tmp} {v u : Value} {C : Array Value} (ho : o.op = .build T #[(i, .tmp s), (j, .tmp x)]) (h : fr.tmps[s]?.getD undef = v) (h2 : fr.tmps[x]?.getD undef = u) (hb : P.built T [(i, v), (j, u)] = some C) : (execOp fr.eval o).run P w = .ok (.value (.agg C)) w :=
  built_runM ho (by simp only [List.map_cons, List.map_nil, ev_tmpM h, ev_tmpM h2]) hb
end
/-- the pair that both govern, if there is one -/
def nearP (a b : Kt) : Pr := ⟨false, zs 16, orP a.lp b.lp, (if b.len > a.len then b.s else a.s), (if b.len > a.len then b.a else a.a), orP a.rp b.rp⟩
theorem orP_range {x y : Int} (hx : 0 ≤ x ∧ x ≤ 65535) (hy : 0 ≤ y ∧ y ≤ 65535) : 0 ≤ orP x y ∧ orP x y ≤ 65535 := by unfold orP; split <;> assumption
theorem nearP_ok {a b : Kt} (ha : a.Ok) (hb : b.Ok) : (nearP a b).Ok := by
  refine ⟨zs_len 16, ?_, zsByte 16, ?_, orP_range ha.lp hb.lp, orP_range ha.rp hb.rp⟩
  · unfold nearP; simp only; split
    · exact hb.la
    · exact ha.la
  · unfold nearP; simp only; split
    · exact hb.ya
    · exact ha.ya
theorem zAdr_zs : zAdr = (adrK false (zs 16)).toArray := by rfl
def nrV (b0 b1 b4 b5 : Nat) (x1 x2 y1 y2 ox oy : Int) (CR E1 E2 CP : Array Value) : Nat → Value → World → Prop
  | 0, v, _ => v = .pointer (some ⟨b0, 19, none⟩)
  | 1, v, _ => v = .int .u16 x1
  | 2, v, _ => v = .pointer (some ⟨b1, 19, none⟩)
  | 3, v, _ => v = .int .u16 x2
  | 4, v, w => ∃ q, v = .slice (some ⟨q, 0, none⟩) 2 2 ∧ w.heap[q]? = some (.cells #[.int .u16 x1, .int .u16 x2] 26 (0, 0))
  | 5, v, _ => v = .int .u16 ox
  | 6, v, _ => v = .agg E1
  | 7, v, _ => v = .agg CR
  | 8, v, _ => v = .pointer (some ⟨b0, 20, none⟩)
  | 9, v, _ => v = .int .u16 y1
  | 10, v, _ => v = .pointer (some ⟨b1, 20, none⟩)
  | 11, v, _ => v = .int .u16 y2
  | 12, v, w => ∃ q, v = .slice (some ⟨q, 0, none⟩) 2 2 ∧ w.heap[q]? = some (.cells #[.int .u16 y1, .int .u16 y2] 26 (0, 0))
  | 13, v, _ => v = .int .u16 oy
  | 14, v, _ => v = .agg E2
  | 15, v, _ => v = .agg CP
  | _, _, _ => True
theorem nrV.keep (b0 b1 b4 b5 : Nat) (x1 x2 y1 y2 ox oy : Int) (CR E1 E2 CP : Array Value) (q9 : Nat) (v : Value) (w w' : World) (hb : Below w.heap.size w w') (h : nrV b0 b1 b4 b5 x1 x2 y1 y2 ox oy CR E1 E2 CP q9 v w) : nrV b0 b1 b4 b5 x1 x2 y1 y2 ox oy CR E1 E2 CP q9 v w' := by
  by_cases e4 : q9 = 4
  · subst e4
    obtain ⟨q, h1, h2⟩ := h
    exact ⟨q, h1, by rw [hb.block _ (lt_of_row h2)]; exact h2⟩
  by_cases e12 : q9 = 12
  · subst e12
    obtain ⟨q, h1, h2⟩ := h
    exact ⟨q, h1, by rw [hb.block _ (lt_of_row h2)]; exact h2⟩
  unfold nrV at h ⊢
  split at h <;> first | exact h | exact absurd rfl (by assumption)
def nrT : List (Option Nat) := [none, none, none, none, none, none, none, none, none, none, none, none, none, none, none, some 0, some 1, some 2, some 3, some 4, some 5, some 6, some 7, some 8, some 9, some 10, some 11, some 12, some 13, some 14, some 15]
set_option maxRecDepth 100000 in
set_option maxHeartbeats 4000000 in
theorem nearest_any (a b : Kt) (A B : Option Addr) (n c m d : Nat) (w : World) (ha : a.Ok) (hb : b.Ok) : Calls Try.prog 58 #[.agg (ktV a A n c), .agg (ktV b B m d)] w (Ret w (.agg (prV (nearP a b)))) := by
  have hz1 := zeroAdr
  have hz2 := zeroPr
  have e1 : (w.alloc (.cells (ktV a A n c) 49)).heap.size = w.heap.size + 1 := alloc_size _ _
  obtain ⟨W, hW⟩ : ∃ W, W = ((w.alloc (.cells (ktV a A n c) 49)).alloc (.cells (ktV b B m d) 49)).alloc (.cells (prV zPr) 30) := ⟨_, rfl⟩
  have e2 : ((w.alloc (.cells (ktV a A n c) 49)).alloc (.cells (ktV b B m d) 49)).heap.size = w.heap.size + 2 := by rw [alloc_size, e1]
  have e3 : W.heap.size = w.heap.size + 3 := by rw [hW, alloc_size, e2]
  have R0 : W.heap[w.heap.size]? = some (.cells (ktV a A n c) 49 (0, 0)) := by rw [hW, Below.block (alloc_below _ _) _ (by rw [e2]; omega), Below.block (alloc_below _ _) _ (by rw [e1]; omega)]; exact heap_alloc_new w _
  have R1 : W.heap[w.heap.size + 1]? = some (.cells (ktV b B m d) 49 (0, 0)) := by rw [hW, Below.block (alloc_below _ _) _ (by rw [e2]; omega), ← e1]; exact heap_alloc_new _ _
  have R2 : W.heap[w.heap.size + 2]? = some (.cells (prV zPr) 30 (0, 0)) := by rw [hW, ← e2]; exact heap_alloc_new _ _
  have HB : Below w.heap.size w W := by rw [hW]; exact (((Below.refl _ _).alloc (Nat.le_refl _) _).alloc (by simp) _).alloc (by rw [e2]; omega) _
  obtain ⟨W1, hW1⟩ : ∃ W1, W1 = W.alloc (.cells (adrK a.s a.a).toArray 25) := ⟨_, rfl⟩
  have B1 : Below W.heap.size W W1 := by rw [hW1]; exact alloc_below _ _
  obtain ⟨b0, hb0⟩ : ∃ g, g = w.heap.size := ⟨_, rfl⟩
  obtain ⟨b1, hb1⟩ : ∃ g, g = w.heap.size + 1 := ⟨_, rfl⟩
  obtain ⟨b4, hb4⟩ : ∃ g, g = w.heap.size + 2 := ⟨_, rfl⟩
  obtain ⟨b5, hb5⟩ : ∃ g, g = w.heap.size + 3 := ⟨_, rfl⟩
  have S0 : W1.heap[b0]? = some (.cells (ktV a A n c) 49 (0, 0)) := by rw [B1.block _ (by rw [e3, hb0]; omega), hb0]; exact R0
  have S1' : W1.heap[b1]? = some (.cells (ktV b B m d) 49 (0, 0)) := by rw [B1.block _ (by rw [e3, hb1]; omega), hb1]; exact R1
  have S2 : W1.heap[b4]? = some (.cells (prV zPr) 30 (0, 0)) := by rw [B1.block _ (by rw [e3, hb4]; omega), hb4]; exact R2
  have S5 : W1.heap[b5]? = some (.cells (adrK a.s a.a).toArray 25 (0, 0)) := by rw [hW1, hb5, ← e3]; exact heap_alloc_new _ _
  have HB1 : Below w.heap.size w W1 := HB.trans (B1.mono (by rw [e3]; omega))
  have SA := Lib.hid (show ∀ j v, (adrK a.s a.a)[j]? = some v → W.cell? ⟨b0, 1 + j, none⟩ = some v from fun j v hv => by rw [hb0]; exact kt_cell R0 (kt_src hv))
  have SB := Lib.hid (show ∀ j v, (adrK b.s b.a)[j]? = some v → W1.cell? ⟨b1, 1 + j, none⟩ = some v from fun j v hv => kt_cell S1' (kt_src hv))
  have la := kt_cell S0 (kt_len ha)
  have lb := kt_cell S1' (kt_len hb)
  have IA := Lib.hid (adrKi a.s ha.la)
  have IB := Lib.hid (adrKi b.s hb.la)
  have ZA := Lib.hid (show zAdr.size = (adrK a.s a.a).toArray.size by rw [show ((adrK a.s a.a).toArray).size = 17 by rw [List.size_toArray, adrKn ha.la]]; rfl)
  have ZB := Lib.hid (show (adrK a.s a.a).toArray.size = (adrK b.s b.a).toArray.size by rw [List.size_toArray, List.size_toArray, adrKn ha.la, adrKn hb.la])
  have OA := Lib.hid (show (adrK a.s a.a).toArray.all (·.oneCell') = true by rw [List.all_toArray]; exact List.all_eq_true.2 (adrKo _ _))
  have OB := Lib.hid (show (adrK b.s b.a).toArray.all (·.oneCell') = true by rw [List.all_toArray]; exact List.all_eq_true.2 (adrKo _ _))
  have hok := nearP_ok ha hb
  obtain ⟨CP, hCP⟩ : ∃ C, C = prV (nearP a b) := ⟨_, rfl⟩
  have IP := Lib.hid (show (Try.prog.info? 30).map (·.size) = some CP.size by rw [hCP]; exact prV_info hok)
  have SP := Lib.hid (show (prV zPr).size = CP.size by rw [hCP, prV_size hok, prV_size zPr_ok])
  have OP := Lib.hid (show CP.all (·.oneCell') = true by rw [hCP]; exact prV_one _)
  have PB := Lib.hid (show Try.prog.built 30 [(0, .agg (enV false (zs 16) (orP a.lp b.lp))), (1, .agg (enV (if b.len > a.len then b.s else a.s) (if b.len > a.len then b.a else a.a) (orP a.rp b.rp)))] = some CP by rw [hCP]; exact pr_built hok)
  have HA := Lib.hid ha
  have HBB := Lib.hid hb
  have HB4 := Lib.hid (show w.heap.size ≤ b4 by omega)
  have HD := Lib.hid (show b0 ≠ b5 ∧ b1 ≠ b5 ∧ b4 ≠ b5 ∧ w.heap.size ≤ b5 by omega)
  have T0 := Lib.hid S0
  have T1 := Lib.hid S1'
  have T4 := Lib.hid S2
  have T5 := Lib.hid S5
  have TB := Lib.hid HB1
  have hba := Lib.hid (show W.heap.size = b5 by rw [e3, hb5])
  have PBh := Lib.hid (And.intro hb0 (And.intro hb1 hb4))
  have HW := Lib.hid hW
  have HW1 := Lib.hid hW1
  clear hW hW1 R0 R1 R2 HB B1 e1 e2 S0 S1' S2 S5 HB1 ha hb hok hb0 hb1 hb4 hb5 e3
  rw [← hCP]
  clear hCP
  obtain ⟨CY, hCY⟩ : ∃ C, C = ktV a A n c := ⟨_, rfl⟩
  obtain ⟨CZ, hCZ⟩ : ∃ C, C = ktV b B m d := ⟨_, rfl⟩
  obtain ⟨ZP, hZP⟩ : ∃ C, C = prV zPr := ⟨_, rfl⟩
  obtain ⟨ZQ, hZQ⟩ : ∃ C, C = zAdr := ⟨_, rfl⟩
  rw [← hCY, ← hCZ] at HW ⊢
  rw [← hZP] at HW hz2 SP T4
  rw [← hZQ] at hz1 ZA
  rw [← hCY] at T0
  rw [← hCZ] at T1
  have HCY := Lib.hid hCY
  have HCZ := Lib.hid hCZ
  clear hCY hCZ hZP hZQ
  obtain ⟨KA, hKA⟩ : ∃ K, K = adrK a.s a.a := ⟨_, rfl⟩
  obtain ⟨KB, hKB⟩ : ∃ K, K = adrK b.s b.a := ⟨_, rfl⟩
  rw [← hKA] at SA IA ZA ZB OA HW1 T5
  rw [← hKB] at SB IB ZB OB
  have HKA := Lib.hid hKA
  have HKB := Lib.hid hKB
  clear hKA hKB
  obtain ⟨LA, hLA⟩ : ∃ x, x = a.len := ⟨_, rfl⟩
  obtain ⟨LB, hLB⟩ : ∃ x, x = b.len := ⟨_, rfl⟩
  rw [← hLA] at la PB
  rw [← hLB] at lb PB
  have HLA := Lib.hid hLA
  have HLB := Lib.hid hLB
  clear hLA hLB
  go_enter Try.func58, Try.ntmps58
  go_upto_region 1 with fail
  rw [← HW.out]
  try rw [← PBh.out.2.2]
  try rw [← PBh.out.2.1]
  try rw [← PBh.out.1]
  clear HW hz2
  go_upto_region 2 with (first
    | (with_reducible refine atC.at_load 25 6 ?_; refine pkC.wpList_load_partG (by kernel_rfl) 25 (.tmp 6) rfl b0 1 (by kernel_rfl) KA _ SA.out Try.underlying25 rfl IA.out ?_)
    | (refine wpList_store_row rfl 25 (.tmp 5) (.tmp 7) rfl W.heap.size KA.toArray rfl rfl _ _ (heap_alloc_new _ _) IA.out ZA.out OA.out ?_; rw [World.setRow_alloc_new]))
  rw [← HW1.out, hba.out]
  clear HW1 hba SA hz1
  by_cases hq : LB > LA
  · have q1 : decide (LB > LA) = true := decide_eq_true hq
    rw [if_pos hq, if_pos hq] at PB
    clear hq
    go_upto_region 4 with (first
      | (with_reducible refine atC.at_load 25 13 ?_; refine pkC.wpList_load_partG (by kernel_rfl) 25 (.tmp 13) rfl b1 1 (by kernel_rfl) KB _ SB.out Try.underlying25 rfl IB.out ?_)
      | (refine wpList_store_row rfl 25 (.tmp 5) (.tmp 14) rfl b5 KB.toArray rfl rfl _ _ T5.out IB.out ZB.out OB.out ?_))
    obtain ⟨wr, hwr⟩ : ∃ W, W = W1.setRow b5 KB.toArray := ⟨_, rfl⟩
    rw [← hwr]
    have U0 := Lib.hid (show wr.heap[b0]? = some (.cells CY 49 (0, 0)) by rw [hwr, setRow_other _ _ _ _ HD.out.1]; exact T0.out)
    have U1 := Lib.hid (show wr.heap[b1]? = some (.cells CZ 49 (0, 0)) by rw [hwr, setRow_other _ _ _ _ HD.out.2.1]; exact T1.out)
    have U4 := Lib.hid (show wr.heap[b4]? = some (.cells ZP 30 (0, 0)) by rw [hwr, setRow_other _ _ _ _ HD.out.2.2.1]; exact T4.out)
    have U5 := Lib.hid (show wr.heap[b5]? = some (.cells KB.toArray 25 (0, 0)) by rw [hwr]; exact setRow_heap _ _ _ _ _ _ T5.out)
    have UB := Lib.hid (show Below w.heap.size w wr by rw [hwr]; exact setR_belowM TB.out HD.out.2.2.2 _)
    clear hwr T0 T1 T4 T5 TB q1
    have T0 := U0
    have T1 := U1
    have T4 := U4
    have T5 := U5
    have TB := UB
    clear U0 U1 U4 U5 UB
    have E1H := Lib.hid (show Try.prog.built 28 [(1, .int .u16 (orP a.lp b.lp))] = some (enV false (zs 16) (orP a.lp b.lp)) from end_built1 _)
    have E2H := Lib.hid (show Try.prog.built 28 [(0, .agg KB.toArray), (1, .int .u16 (orP a.rp b.rp))] = some (enV b.s b.a (orP a.rp b.rp)) by rw [HKB.out]; exact end_built2 _ _ HBB.out.la)
    obtain ⟨x1, hx1⟩ : ∃ x, x = a.lp := ⟨_, rfl⟩
    obtain ⟨x2, hx2⟩ : ∃ x, x = b.lp := ⟨_, rfl⟩
    obtain ⟨y1, hy1⟩ : ∃ x, x = a.rp := ⟨_, rfl⟩
    obtain ⟨y2, hy2⟩ : ∃ x, x = b.rp := ⟨_, rfl⟩
    have PX1 := Lib.hid (fun (w' : World) (hg : Gr wr w') => (show w'.cell? ⟨b0, 19, none⟩ = some (.int .u16 x1) by rw [hx1]; exact kt_cell (((show Below wr.heap.size wr w' from hg).block _ (lt_of_row T0.out)).trans (T0.out.trans (by rw [HCY.out]))) (kt_lp HA.out)))
    have PX2 := Lib.hid (fun (w' : World) (hg : Gr wr w') => (show w'.cell? ⟨b1, 19, none⟩ = some (.int .u16 x2) by rw [hx2]; exact kt_cell (((show Below wr.heap.size wr w' from hg).block _ (lt_of_row T1.out)).trans (T1.out.trans (by rw [HCZ.out]))) (kt_lp HBB.out)))
    have PY1 := Lib.hid (fun (w' : World) (hg : Gr wr w') => (show w'.cell? ⟨b0, 20, none⟩ = some (.int .u16 y1) by rw [hy1]; exact kt_cell (((show Below wr.heap.size wr w' from hg).block _ (lt_of_row T0.out)).trans (T0.out.trans (by rw [HCY.out]))) (kt_rp HA.out)))
    have PY2 := Lib.hid (fun (w' : World) (hg : Gr wr w') => (show w'.cell? ⟨b1, 20, none⟩ = some (.int .u16 y2) by rw [hy2]; exact kt_cell (((show Below wr.heap.size wr w' from hg).block _ (lt_of_row T1.out)).trans (T1.out.trans (by rw [HCZ.out]))) (kt_rp HBB.out)))
    have K4 := Lib.hid (fun (w' : World) (hg : Gr wr w') => (show w'.heap[b4]? = some (.cells ZP 30 (0, 0)) from ((show Below wr.heap.size wr w' from hg).block _ (lt_of_row T4.out)).trans T4.out))
    have K5 := Lib.hid (fun (w' : World) (hg : Gr wr w') => (show w'.heap[b5]? = some (.cells KB.toArray 25 (0, 0)) from ((show Below wr.heap.size wr w' from hg).block _ (lt_of_row T5.out)).trans T5.out))
    have HB5 := TB
    rw [← hx1, ← hx2] at E1H PB
    rw [← hy1, ← hy2] at E2H PB
    clear hx1 hx2 hy1 hy2 T0 T1 T4 T5 TB HCY HCZ
    obtain ⟨ox, hox⟩ : ∃ x, x = orP x1 x2 := ⟨_, rfl⟩
    obtain ⟨oy, hoy⟩ : ∃ x, x = orP y1 y2 := ⟨_, rfl⟩
    have OX := Lib.hid hox
    have OY := Lib.hid hoy
    rw [← hox] at E1H PB
    rw [← hoy] at E2H PB
    clear hox hoy
    obtain ⟨E1, hE1⟩ : ∃ E, E = enV false (zs 16) ox := ⟨_, rfl⟩
    obtain ⟨E2, hE2⟩ : ∃ E, E = enV b.s b.a oy := ⟨_, rfl⟩
    have BE1 := Lib.hid (show Try.prog.built 28 [(1, .int .u16 ox)] = some E1 by rw [hE1]; exact E1H.out)
    have BE2 := Lib.hid (show Try.prog.built 28 [(0, .agg KB.toArray), (1, .int .u16 oy)] = some E2 by rw [hE2]; exact E2H.out)
    have BP := Lib.hid (show Try.prog.built 30 [(0, .agg E1), (1, .agg E2)] = some CP by rw [hE1, hE2]; exact PB.out)
    obtain ⟨CR, hCR⟩ : ∃ C, C = KB.toArray := ⟨_, rfl⟩
    have IR := Lib.hid (show (Try.prog.info? 25).map (·.size) = some CR.size by rw [hCR, List.size_toArray]; exact IB.out)
    rw [← hCR] at K5 BE2
    clear hE1 hE2 E1H E2H PB hCR IA IB ZA ZB OA OB HKA HKB HA HBB HLA HLB SB la lb
    refine with_act fun a0 ha0 => ?_
    have hl : nrT.length = a0.tmps.size := by rw [ha0]; rfl
    have k2 : a0.tmps[2]?.getD undef = .pointer (some ⟨b0, 0, none⟩) := by rw [ha0]; rfl
    have k3 : a0.tmps[3]?.getD undef = .pointer (some ⟨b1, 0, none⟩) := by rw [ha0]; rfl
    have k4 : a0.tmps[4]?.getD undef = .pointer (some ⟨b4, 0, none⟩) := by rw [ha0]; rfl
    have k5 : a0.tmps[5]?.getD undef = .pointer (some ⟨b5, 0, none⟩) := by rw [ha0]; rfl
    refine wp_region_cov 16 (by kernel_rfl) nrT (by kernel_rfl) (by kernel_rfl) hl (by kernel_rfl) (by kernel_rfl) (by kernel_rfl) (fun i => a0.tmps[i + 15]?.getD undef) (by rw [ha0]; rfl) (Gr wr) (nrV b0 b1 b4 b5 x1 x2 y1 y2 ox oy CR E1 E2 CP) (gr_drew _) (nrV.keep _ _ _ _ _ _ _ _ _ _ _ _ _ _) ⟨?_, ?_, ?_, ?_, ?_, ?_, ?_, ?_, ?_, ?_, ?_, ?_, ?_, ?_, ?_, ?_, trivial⟩ ?_
    · refine step_plain [] (by kernel_rfl) rfl fun us w' hG hV => ?_
      have o2 := (frame_old2 (us := us) (a := a0) (show (nrT[2]?).join = none from rfl)).trans k2
      generalize frame nrT a0 us = fr at *
      exact val_ok (v := .pointer (some ⟨b0, 19, none⟩)) (w' := w') (by go_simp) hG (Below.refl _ _) rfl
    · refine step_plain [0] (by kernel_rfl) rfl fun us w' hG hV => ?_
      have e0 : us 0 = .pointer (some ⟨b0, 19, none⟩) := hV 0 (by simp)
      have v0 := (frame_at2 (us := us) hl (show (nrT[15]?).join = some 0 from rfl)).trans e0
      have hc := PX1.out w' hG
      generalize frame nrT a0 us = fr at *
      exact val_ok (v := .int .u16 x1) (w' := w') (by go_simp) hG (Below.refl _ _) rfl
    · refine step_plain [] (by kernel_rfl) rfl fun us w' hG hV => ?_
      have o3 := (frame_old2 (us := us) (a := a0) (show (nrT[3]?).join = none from rfl)).trans k3
      generalize frame nrT a0 us = fr at *
      exact val_ok (v := .pointer (some ⟨b1, 19, none⟩)) (w' := w') (by go_simp) hG (Below.refl _ _) rfl
    · refine step_plain [2] (by kernel_rfl) rfl fun us w' hG hV => ?_
      have e2 : us 2 = .pointer (some ⟨b1, 19, none⟩) := hV 2 (by simp)
      have v2 := (frame_at2 (us := us) hl (show (nrT[17]?).join = some 2 from rfl)).trans e2
      have hc := PX2.out w' hG
      generalize frame nrT a0 us = fr at *
      exact val_ok (v := .int .u16 x2) (w' := w') (by go_simp) hG (Below.refl _ _) rfl
    · refine step_plain [1, 3] (by kernel_rfl) rfl fun us w' hG hV => ?_
      have e1 : us 1 = .int .u16 x1 := hV 1 (by simp)
      have v1 := (frame_at2 (us := us) hl (show (nrT[16]?).join = some 1 from rfl)).trans e1
      have e3 : us 3 = .int .u16 x2 := hV 3 (by simp)
      have v3 := (frame_at2 (us := us) hl (show (nrT[18]?).join = some 3 from rfl)).trans e3
      generalize frame nrT a0 us = fr at *
      exact val_ok (v := .slice (some ⟨w'.heap.size, 0, none⟩) 2 2) (w' := w'.alloc (.cells #[.int .u16 x1, .int .u16 x2] 26)) (by go_simp) (hG.below (alloc_below _ _)) (alloc_below _ _) ⟨_, rfl, heap_alloc_new _ _⟩
    · refine step_plain [4] (by kernel_rfl) rfl fun us w' hG hV => ?_
      obtain ⟨q4, e4, r4⟩ := (show ∃ q, us 4 = .slice (some ⟨q, 0, none⟩) 2 2 ∧ w'.heap[q]? = some (.cells #[.int .u16 x1, .int .u16 x2] 26 (0, 0)) from hV 4 (by simp))
      have v4 := (frame_at2 (us := us) hl (show (nrT[19]?).join = some 4 from rfl)).trans e4
      generalize frame nrT a0 us = fr at *
      exact call_ok (f := 61) (args := #[.slice (some ⟨q4, 0, none⟩) 2 2]) (by go_simp) ((show Calls Try.prog 61 #[.slice (some ⟨q4, 0, none⟩) 2 2] w' (Ret w' (.int .u16 ox)) by rw [OX.out]; exact cor16_any x1 x2 q4 w' r4).mono fun e w'' h => ⟨_, h.1, hG.below h.2, h.2, rfl⟩)
    · refine step_plain [5] (by kernel_rfl) rfl fun us w' hG hV => ?_
      have e5 : us 5 = .int .u16 ox := hV 5 (by simp)
      have v5 := (frame_at2 (us := us) hl (show (nrT[20]?).join = some 5 from rfl)).trans e5
      generalize frame nrT a0 us = fr at *
      exact val_ok (v := .agg E1) (w' := w') (built1_M (T := 28) rfl v5 BE1.out) hG (Below.refl _ _) rfl
    · refine step_plain [] (by kernel_rfl) rfl fun us w' hG hV => ?_
      have o5 := (frame_old2 (us := us) (a := a0) (show (nrT[5]?).join = none from rfl)).trans k5
      have hg1 := (K5.out w' hG)
      generalize frame nrT a0 us = fr at *
      exact load_ok 25 5 rfl (b5) o5 _ _ (0, 0) _ hg1 Try.underlying25 rfl IR.out hG rfl
    · refine step_plain [] (by kernel_rfl) rfl fun us w' hG hV => ?_
      have o2 := (frame_old2 (us := us) (a := a0) (show (nrT[2]?).join = none from rfl)).trans k2
      generalize frame nrT a0 us = fr at *
      exact val_ok (v := .pointer (some ⟨b0, 20, none⟩)) (w' := w') (by go_simp) hG (Below.refl _ _) rfl
    · refine step_plain [8] (by kernel_rfl) rfl fun us w' hG hV => ?_
      have e8 : us 8 = .pointer (some ⟨b0, 20, none⟩) := hV 8 (by simp)
      have v8 := (frame_at2 (us := us) hl (show (nrT[23]?).join = some 8 from rfl)).trans e8
      have hc := PY1.out w' hG
      generalize frame nrT a0 us = fr at *
      exact val_ok (v := .int .u16 y1) (w' := w') (by go_simp) hG (Below.refl _ _) rfl
    · refine step_plain [] (by kernel_rfl) rfl fun us w' hG hV => ?_
      have o3 := (frame_old2 (us := us) (a := a0) (show (nrT[3]?).join = none from rfl)).trans k3
      generalize frame nrT a0 us = fr at *
      exact val_ok (v := .pointer (some ⟨b1, 20, none⟩)) (w' := w') (by go_simp) hG (Below.refl _ _) rfl
    · refine step_plain [10] (by kernel_rfl) rfl fun us w' hG hV => ?_
      have e10 : us 10 = .pointer (some ⟨b1, 20, none⟩) := hV 10 (by simp)
      have v10 := (frame_at2 (us := us) hl (show (nrT[25]?).join = some 10 from rfl)).trans e10
      have hc := PY2.out w' hG
      generalize frame nrT a0 us = fr at *
      exact val_ok (v := .int .u16 y2) (w' := w') (by go_simp) hG (Below.refl _ _) rfl
    · refine step_plain [9, 11] (by kernel_rfl) rfl fun us w' hG hV => ?_
      have e9 : us 9 = .int .u16 y1 := hV 9 (by simp)
      have v9 := (frame_at2 (us := us) hl (show (nrT[24]?).join = some 9 from rfl)).trans e9
      have e11 : us 11 = .int .u16 y2 := hV 11 (by simp)
      have v11 := (frame_at2 (us := us) hl (show (nrT[26]?).join = some 11 from rfl)).trans e11
      generalize frame nrT a0 us = fr at *
      exact val_ok (v := .slice (some ⟨w'.heap.size, 0, none⟩) 2 2) (w' := w'.alloc (.cells #[.int .u16 y1, .int .u16 y2] 26)) (by go_simp) (hG.below (alloc_below _ _)) (alloc_below _ _) ⟨_, rfl, heap_alloc_new _ _⟩
    · refine step_plain [12] (by kernel_rfl) rfl fun us w' hG hV => ?_
      obtain ⟨q12, e12, r12⟩ := (show ∃ q, us 12 = .slice (some ⟨q, 0, none⟩) 2 2 ∧ w'.heap[q]? = some (.cells #[.int .u16 y1, .int .u16 y2] 26 (0, 0)) from hV 12 (by simp))
      have v12 := (frame_at2 (us := us) hl (show (nrT[27]?).join = some 12 from rfl)).trans e12
      generalize frame nrT a0 us = fr at *
      exact call_ok (f := 61) (args := #[.slice (some ⟨q12, 0, none⟩) 2 2]) (by go_simp) ((show Calls Try.prog 61 #[.slice (some ⟨q12, 0, none⟩) 2 2] w' (Ret w' (.int .u16 oy)) by rw [OY.out]; exact cor16_any y1 y2 q12 w' r12).mono fun e w'' h => ⟨_, h.1, hG.below h.2, h.2, rfl⟩)
    · refine step_plain [7, 13] (by kernel_rfl) rfl fun us w' hG hV => ?_
      have e7 : us 7 = .agg CR := hV 7 (by simp)
      have v7 := (frame_at2 (us := us) hl (show (nrT[22]?).join = some 7 from rfl)).trans e7
      have e13 : us 13 = .int .u16 oy := hV 13 (by simp)
      have v13 := (frame_at2 (us := us) hl (show (nrT[28]?).join = some 13 from rfl)).trans e13
      generalize frame nrT a0 us = fr at *
      exact val_ok (v := .agg E2) (w' := w') (built2_M (T := 28) rfl v7 v13 BE2.out) hG (Below.refl _ _) rfl
    · refine step_plain [6, 14] (by kernel_rfl) rfl fun us w' hG hV => ?_
      have e6 : us 6 = .agg E1 := hV 6 (by simp)
      have v6 := (frame_at2 (us := us) hl (show (nrT[21]?).join = some 6 from rfl)).trans e6
      have e14 : us 14 = .agg E2 := hV 14 (by simp)
      have v14 := (frame_at2 (us := us) hl (show (nrT[29]?).join = some 14 from rfl)).trans e14
      generalize frame nrT a0 us = fr at *
      exact val_ok (v := .agg CP) (w' := w') (built2_M (T := 30) rfl v6 v14 BP.out) hG (Below.refl _ _) rfl
    · intro us wz ob ho hG hV
      obtain rfl := Option.some.inj ho
      have e15 : us 15 = .agg CP := hV 15 (by decide)
      have v15 := (frame_at2 (us := us) hl (show (nrT[30]?).join = some 15 from rfl)).trans e15
      have o4 := (frame_old2 (us := us) (a := a0) (show (nrT[4]?).join = none from rfl)).trans k4
      have hg4 := K4.out wz hG
      have HBZ := Lib.hid (HB5.out.trans ((show Below wr.heap.size wr wz from hG).mono HB5.out.size))
      refine store_J 30 4 30 rfl b4 CP o4 v15 _ _ hg4 IP.out SP.out OP.out ?_
      have HS := Lib.hid (setRow_heap wz b4 _ CP _ _ hg4)
      have HBY := Lib.hid (setR_belowM HBZ.out HB4.out CP)
      subst ha0
      simp only [Act.put, frame, nrT]
      clear hV v15 e15 o4 hg4 hG k2 k3 k4 k5 hl HBZ
      generalize wz.setRow b4 CP = wy at *
      go_wp2_with fail
      refine bodyPost_ret (v := .agg CP) (Go.results_cell_row Try.results58 _ _ b4 _ _ _ _ (by rfl) HS.out Try.underlying30 rfl IP.out) rfl ?_
      exact ⟨rfl, HBY.out⟩
  · have q1 : decide (LB > LA) = false := decide_eq_false hq
    rw [if_neg hq, if_neg hq] at PB
    clear hq
    go_upto_region 4 with fail
    clear q1
    obtain ⟨wr, hwr⟩ : ∃ W, W = W1 := ⟨_, rfl⟩
    subst hwr
    clear HD
    have E1H := Lib.hid (show Try.prog.built 28 [(1, .int .u16 (orP a.lp b.lp))] = some (enV false (zs 16) (orP a.lp b.lp)) from end_built1 _)
    have E2H := Lib.hid (show Try.prog.built 28 [(0, .agg KA.toArray), (1, .int .u16 (orP a.rp b.rp))] = some (enV a.s a.a (orP a.rp b.rp)) by rw [HKA.out]; exact end_built2 _ _ HA.out.la)
    obtain ⟨x1, hx1⟩ : ∃ x, x = a.lp := ⟨_, rfl⟩
    obtain ⟨x2, hx2⟩ : ∃ x, x = b.lp := ⟨_, rfl⟩
    obtain ⟨y1, hy1⟩ : ∃ x, x = a.rp := ⟨_, rfl⟩
    obtain ⟨y2, hy2⟩ : ∃ x, x = b.rp := ⟨_, rfl⟩
    have PX1 := Lib.hid (fun (w' : World) (hg : Gr wr w') => (show w'.cell? ⟨b0, 19, none⟩ = some (.int .u16 x1) by rw [hx1]; exact kt_cell (((show Below wr.heap.size wr w' from hg).block _ (lt_of_row T0.out)).trans (T0.out.trans (by rw [HCY.out]))) (kt_lp HA.out)))
    have PX2 := Lib.hid (fun (w' : World) (hg : Gr wr w') => (show w'.cell? ⟨b1, 19, none⟩ = some (.int .u16 x2) by rw [hx2]; exact kt_cell (((show Below wr.heap.size wr w' from hg).block _ (lt_of_row T1.out)).trans (T1.out.trans (by rw [HCZ.out]))) (kt_lp HBB.out)))
    have PY1 := Lib.hid (fun (w' : World) (hg : Gr wr w') => (show w'.cell? ⟨b0, 20, none⟩ = some (.int .u16 y1) by rw [hy1]; exact kt_cell (((show Below wr.heap.size wr w' from hg).block _ (lt_of_row T0.out)).trans (T0.out.trans (by rw [HCY.out]))) (kt_rp HA.out)))
    have PY2 := Lib.hid (fun (w' : World) (hg : Gr wr w') => (show w'.cell? ⟨b1, 20, none⟩ = some (.int .u16 y2) by rw [hy2]; exact kt_cell (((show Below wr.heap.size wr w' from hg).block _ (lt_of_row T1.out)).trans (T1.out.trans (by rw [HCZ.out]))) (kt_rp HBB.out)))
    have K4 := Lib.hid (fun (w' : World) (hg : Gr wr w') => (show w'.heap[b4]? = some (.cells ZP 30 (0, 0)) from ((show Below wr.heap.size wr w' from hg).block _ (lt_of_row T4.out)).trans T4.out))
    have K5 := Lib.hid (fun (w' : World) (hg : Gr wr w') => (show w'.heap[b5]? = some (.cells KA.toArray 25 (0, 0)) from ((show Below wr.heap.size wr w' from hg).block _ (lt_of_row T5.out)).trans T5.out))
    have HB5 := TB
    rw [← hx1, ← hx2] at E1H PB
    rw [← hy1, ← hy2] at E2H PB
    clear hx1 hx2 hy1 hy2 T0 T1 T4 T5 TB HCY HCZ
    obtain ⟨ox, hox⟩ : ∃ x, x = orP x1 x2 := ⟨_, rfl⟩
    obtain ⟨oy, hoy⟩ : ∃ x, x = orP y1 y2 := ⟨_, rfl⟩
    have OX := Lib.hid hox
    have OY := Lib.hid hoy
    rw [← hox] at E1H PB
    rw [← hoy] at E2H PB
    clear hox hoy
    obtain ⟨E1, hE1⟩ : ∃ E, E = enV false (zs 16) ox := ⟨_, rfl⟩
    obtain ⟨E2, hE2⟩ : ∃ E, E = enV a.s a.a oy := ⟨_, rfl⟩
    have BE1 := Lib.hid (show Try.prog.built 28 [(1, .int .u16 ox)] = some E1 by rw [hE1]; exact E1H.out)
    have BE2 := Lib.hid (show Try.prog.built 28 [(0, .agg KA.toArray), (1, .int .u16 oy)] = some E2 by rw [hE2]; exact E2H.out)
    have BP := Lib.hid (show Try.prog.built 30 [(0, .agg E1), (1, .agg E2)] = some CP by rw [hE1, hE2]; exact PB.out)
    obtain ⟨CR, hCR⟩ : ∃ C, C = KA.toArray := ⟨_, rfl⟩
    have IR := Lib.hid (show (Try.prog.info? 25).map (·.size) = some CR.size by rw [hCR, List.size_toArray]; exact IA.out)
    rw [← hCR] at K5 BE2
    clear hE1 hE2 E1H E2H PB hCR IA IB ZA ZB OA OB HKA HKB HA HBB HLA HLB SB la lb
    refine with_act fun a0 ha0 => ?_
    have hl : nrT.length = a0.tmps.size := by rw [ha0]; rfl
    have k2 : a0.tmps[2]?.getD undef = .pointer (some ⟨b0, 0, none⟩) := by rw [ha0]; rfl
    have k3 : a0.tmps[3]?.getD undef = .pointer (some ⟨b1, 0, none⟩) := by rw [ha0]; rfl
    have k4 : a0.tmps[4]?.getD undef = .pointer (some ⟨b4, 0, none⟩) := by rw [ha0]; rfl
    have k5 : a0.tmps[5]?.getD undef = .pointer (some ⟨b5, 0, none⟩) := by rw [ha0]; rfl
    refine wp_region_cov 16 (by kernel_rfl) nrT (by kernel_rfl) (by kernel_rfl) hl (by kernel_rfl) (by kernel_rfl) (by kernel_rfl) (fun i => a0.tmps[i + 15]?.getD undef) (by rw [ha0]; rfl) (Gr wr) (nrV b0 b1 b4 b5 x1 x2 y1 y2 ox oy CR E1 E2 CP) (gr_drew _) (nrV.keep _ _ _ _ _ _ _ _ _ _ _ _ _ _) ⟨?_, ?_, ?_, ?_, ?_, ?_, ?_, ?_, ?_, ?_, ?_, ?_, ?_, ?_, ?_, ?_, trivial⟩ ?_
    · refine step_plain [] (by kernel_rfl) rfl fun us w' hG hV => ?_
      have o2 := (frame_old2 (us := us) (a := a0) (show (nrT[2]?).join = none from rfl)).trans k2
      generalize frame nrT a0 us = fr at *
      exact val_ok (v := .pointer (some ⟨b0, 19, none⟩)) (w' := w') (by go_simp) hG (Below.refl _ _) rfl
    · refine step_plain [0] (by kernel_rfl) rfl fun us w' hG hV => ?_
      have e0 : us 0 = .pointer (some ⟨b0, 19, none⟩) := hV 0 (by simp)
      have v0 := (frame_at2 (us := us) hl (show (nrT[15]?).join = some 0 from rfl)).trans e0
      have hc := PX1.out w' hG
      generalize frame nrT a0 us = fr at *
      exact val_ok (v := .int .u16 x1) (w' := w') (by go_simp) hG (Below.refl _ _) rfl
    · refine step_plain [] (by kernel_rfl) rfl fun us w' hG hV => ?_
      have o3 := (frame_old2 (us := us) (a := a0) (show (nrT[3]?).join = none from rfl)).trans k3
      generalize frame nrT a0 us = fr at *
      exact val_ok (v := .pointer (some ⟨b1, 19, none⟩)) (w' := w') (by go_simp) hG (Below.refl _ _) rfl
    · refine step_plain [2] (by kernel_rfl) rfl fun us w' hG hV => ?_
      have e2 : us 2 = .pointer (some ⟨b1, 19, none⟩) := hV 2 (by simp)
      have v2 := (frame_at2 (us := us) hl (show (nrT[17]?).join = some 2 from rfl)).trans e2
      have hc := PX2.out w' hG
      generalize frame nrT a0 us = fr at *
      exact val_ok (v := .int .u16 x2) (w' := w') (by go_simp) hG (Below.refl _ _) rfl
    · refine step_plain [1, 3] (by kernel_rfl) rfl fun us w' hG hV => ?_
      have e1 : us 1 = .int .u16 x1 := hV 1 (by simp)
      have v1 := (frame_at2 (us := us) hl (show (nrT[16]?).join = some 1 from rfl)).trans e1
      have e3 : us 3 = .int .u16 x2 := hV 3 (by simp)
      have v3 := (frame_at2 (us := us) hl (show (nrT[18]?).join = some 3 from rfl)).trans e3
      generalize frame nrT a0 us = fr at *
      exact val_ok (v := .slice (some ⟨w'.heap.size, 0, none⟩) 2 2) (w' := w'.alloc (.cells #[.int .u16 x1, .int .u16 x2] 26)) (by go_simp) (hG.below (alloc_below _ _)) (alloc_below _ _) ⟨_, rfl, heap_alloc_new _ _⟩
    · refine step_plain [4] (by kernel_rfl) rfl fun us w' hG hV => ?_
      obtain ⟨q4, e4, r4⟩ := (show ∃ q, us 4 = .slice (some ⟨q, 0, none⟩) 2 2 ∧ w'.heap[q]? = some (.cells #[.int .u16 x1, .int .u16 x2] 26 (0, 0)) from hV 4 (by simp))
      have v4 := (frame_at2 (us := us) hl (show (nrT[19]?).join = some 4 from rfl)).trans e4
      generalize frame nrT a0 us = fr at *
      exact call_ok (f := 61) (args := #[.slice (some ⟨q4, 0, none⟩) 2 2]) (by go_simp) ((show Calls Try.prog 61 #[.slice (some ⟨q4, 0, none⟩) 2 2] w' (Ret w' (.int .u16 ox)) by rw [OX.out]; exact cor16_any x1 x2 q4 w' r4).mono fun e w'' h => ⟨_, h.1, hG.below h.2, h.2, rfl⟩)
    · refine step_plain [5] (by kernel_rfl) rfl fun us w' hG hV => ?_
      have e5 : us 5 = .int .u16 ox := hV 5 (by simp)
      have v5 := (frame_at2 (us := us) hl (show (nrT[20]?).join = some 5 from rfl)).trans e5
      generalize frame nrT a0 us = fr at *
      exact val_ok (v := .agg E1) (w' := w') (built1_M (T := 28) rfl v5 BE1.out) hG (Below.refl _ _) rfl
    · refine step_plain [] (by kernel_rfl) rfl fun us w' hG hV => ?_
      have o5 := (frame_old2 (us := us) (a := a0) (show (nrT[5]?).join = none from rfl)).trans k5
      have hg1 := (K5.out w' hG)
      generalize frame nrT a0 us = fr at *
      exact load_ok 25 5 rfl (b5) o5 _ _ (0, 0) _ hg1 Try.underlying25 rfl IR.out hG rfl
    · refine step_plain [] (by kernel_rfl) rfl fun us w' hG hV => ?_
      have o2 := (frame_old2 (us := us) (a := a0) (show (nrT[2]?).join = none from rfl)).trans k2
      generalize frame nrT a0 us = fr at *
      exact val_ok (v := .pointer (some ⟨b0, 20, none⟩)) (w' := w') (by go_simp) hG (Below.refl _ _) rfl
    · refine step_plain [8] (by kernel_rfl) rfl fun us w' hG hV => ?_
      have e8 : us 8 = .pointer (some ⟨b0, 20, none⟩) := hV 8 (by simp)
      have v8 := (frame_at2 (us := us) hl (show (nrT[23]?).join = some 8 from rfl)).trans e8
      have hc := PY1.out w' hG
      generalize frame nrT a0 us = fr at *
      exact val_ok (v := .int .u16 y1) (w' := w') (by go_simp) hG (Below.refl _ _) rfl
    · refine step_plain [] (by kernel_rfl) rfl fun us w' hG hV => ?_
      have o3 := (frame_old2 (us := us) (a := a0) (show (nrT[3]?).join = none from rfl)).trans k3
      generalize frame nrT a0 us = fr at *
      exact val_ok (v := .pointer (some ⟨b1, 20, none⟩)) (w' := w') (by go_simp) hG (Below.refl _ _) rfl
    · refine step_plain [10] (by kernel_rfl) rfl fun us w' hG hV => ?_
      have e10 : us 10 = .pointer (some ⟨b1, 20, none⟩) := hV 10 (by simp)
      have v10 := (frame_at2 (us := us) hl (show (nrT[25]?).join = some 10 from rfl)).trans e10
      have hc := PY2.out w' hG
      generalize frame nrT a0 us = fr at *
      exact val_ok (v := .int .u16 y2) (w' := w') (by go_simp) hG (Below.refl _ _) rfl
    · refine step_plain [9, 11] (by kernel_rfl) rfl fun us w' hG hV => ?_
      have e9 : us 9 = .int .u16 y1 := hV 9 (by simp)
      have v9 := (frame_at2 (us := us) hl (show (nrT[24]?).join = some 9 from rfl)).trans e9
      have e11 : us 11 = .int .u16 y2 := hV 11 (by simp)
      have v11 := (frame_at2 (us := us) hl (show (nrT[26]?).join = some 11 from rfl)).trans e11
      generalize frame nrT a0 us = fr at *
      exact val_ok (v := .slice (some ⟨w'.heap.size, 0, none⟩) 2 2) (w' := w'.alloc (.cells #[.int .u16 y1, .int .u16 y2] 26)) (by go_simp) (hG.below (alloc_below _ _)) (alloc_below _ _) ⟨_, rfl, heap_alloc_new _ _⟩
    · refine step_plain [12] (by kernel_rfl) rfl fun us w' hG hV => ?_
      obtain ⟨q12, e12, r12⟩ := (show ∃ q, us 12 = .slice (some ⟨q, 0, none⟩) 2 2 ∧ w'.heap[q]? = some (.cells #[.int .u16 y1, .int .u16 y2] 26 (0, 0)) from hV 12 (by simp))
      have v12 := (frame_at2 (us := us) hl (show (nrT[27]?).join = some 12 from rfl)).trans e12
      generalize frame nrT a0 us = fr at *
      exact call_ok (f := 61) (args := #[.slice (some ⟨q12, 0, none⟩) 2 2]) (by go_simp) ((show Calls Try.prog 61 #[.slice (some ⟨q12, 0, none⟩) 2 2] w' (Ret w' (.int .u16 oy)) by rw [OY.out]; exact cor16_any y1 y2 q12 w' r12).mono fun e w'' h => ⟨_, h.1, hG.below h.2, h.2, rfl⟩)
    · refine step_plain [7, 13] (by kernel_rfl) rfl fun us w' hG hV => ?_
      have e7 : us 7 = .agg CR := hV 7 (by simp)
      have v7 := (frame_at2 (us := us) hl (show (nrT[22]?).join = some 7 from rfl)).trans e7
      have e13 : us 13 = .int .u16 oy := hV 13 (by simp)
      have v13 := (frame_at2 (us := us) hl (show (nrT[28]?).join = some 13 from rfl)).trans e13
      generalize frame nrT a0 us = fr at *
      exact val_ok (v := .agg E2) (w' := w') (built2_M (T := 28) rfl v7 v13 BE2.out) hG (Below.refl _ _) rfl
    · refine step_plain [6, 14] (by kernel_rfl) rfl fun us w' hG hV => ?_
      have e6 : us 6 = .agg E1 := hV 6 (by simp)
      have v6 := (frame_at2 (us := us) hl (show (nrT[21]?).join = some 6 from rfl)).trans e6
      have e14 : us 14 = .agg E2 := hV 14 (by simp)
      have v14 := (frame_at2 (us := us) hl (show (nrT[29]?).join = some 14 from rfl)).trans e14
      generalize frame nrT a0 us = fr at *
      exact val_ok (v := .agg CP) (w' := w') (built2_M (T := 30) rfl v6 v14 BP.out) hG (Below.refl _ _) rfl
    · intro us wz ob ho hG hV
      obtain rfl := Option.some.inj ho
      have e15 : us 15 = .agg CP := hV 15 (by decide)
      have v15 := (frame_at2 (us := us) hl (show (nrT[30]?).join = some 15 from rfl)).trans e15
      have o4 := (frame_old2 (us := us) (a := a0) (show (nrT[4]?).join = none from rfl)).trans k4
      have hg4 := K4.out wz hG
      have HBZ := Lib.hid (HB5.out.trans ((show Below wr.heap.size wr wz from hG).mono HB5.out.size))
      refine store_J 30 4 30 rfl b4 CP o4 v15 _ _ hg4 IP.out SP.out OP.out ?_
      have HS := Lib.hid (setRow_heap wz b4 _ CP _ _ hg4)
      have HBY := Lib.hid (setR_belowM HBZ.out HB4.out CP)
      subst ha0
      simp only [Act.put, frame, nrT, fill]
      clear hV v15 e15 o4 hg4 hG k2 k3 k4 k5 hl HBZ
      generalize wz.setRow b4 CP = wy at *
      go_wp2_with fail
      refine bodyPost_ret (v := .agg CP) (Go.results_cell_row Try.results58 _ _ b4 _ _ _ _ (by rfl) HS.out Try.underlying30 rfl IP.out) rfl ?_
      exact ⟨rfl, HBY.out⟩
end Go.Proofs.Ytflfkhcbkhdahaa.mkC

/-
  What fit and the code's Put do (as stage 2 told it, without what its statements name).
-/
namespace Go.Proofs.Ytflfkhcbkhdahaa.octC
open Go.ChangeShapes Go.WideShapes Go.ChangeAt Go.RowKit
open Go.Proofs.Ytflfkhcbkhdahaa.memC
set_option linter.unusedVariables false
theorem byte_info : (Try.prog.info? 5).map (fun i => (i.zero, i.size, i.bytes)) = some (some (.int .u8 0), 1, 1) := by kernel_rfl
end Go.Proofs.Ytflfkhcbkhdahaa.octC
