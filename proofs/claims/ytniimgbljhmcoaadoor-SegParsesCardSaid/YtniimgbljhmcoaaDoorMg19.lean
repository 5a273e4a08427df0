/-
  8 texts of a proof, joined.
-/
import Derived.Test.YtniimgbljhmcoaaDoorMg12
import Derived.Test.YtniimgbljhmcoaaDoorMg18
import Derived.Test.YtniimgbljhmcoaaDoorMg1
import Derived.Test.YtniimgbljhmcoaaDoorMg2
import Derived.Lib.AppendZeros
import Derived.Test.YtniimgbljhmcoaaDoorMg5
import Derived.ProofKit
import Derived.Outline
import Derived.Deep.QuietTactic
import Derived.BigQuiet
import Derived.Lib.Hide
import Derived.IntWalk
import Derived.Laws.BitsAllLaws
import Derived.Test.YtniimgbljhmcoaaDoorMg11
import Derived.Test.YtniimgbljhmcoaaDoorMg10

/-
  What an option tells: the program's.
-/
namespace Go.Proofs.YtniimgbljhmcoaaDoor.opC
open Go.ChangeShapes Go.WideShapes Go.ChangeAt Go.RowKit
open Go.Proofs.YtniimgbljhmcoaaDoor.memC Go.Proofs.YtniimgbljhmcoaaDoor.genC Go.Proofs.YtniimgbljhmcoaaDoor.butC Go.Proofs.YtniimgbljhmcoaaDoor.freeC Go.Proofs.YtniimgbljhmcoaaDoor.adC
open Go.Proofs.YtniimgbljhmcoaaDoor.kdC (Key BytesRet put_key rput_key)
open Go.Proofs.YtniimgbljhmcoaaDoor.octC (numL getZ)
set_option linter.unusedVariables false
theorem lit64 (w : World) (xs : List Int) (T : TypeId) : Nums .u64 (w.alloc (.cells (xs.map (Value.int .u64)).toArray T)) (w.alloc (.cells (xs.map (Value.int .u64)).toArray T)).heap.size (some ⟨w.heap.size, 0, none⟩) xs.length xs := by
  have h := lit_nums .u64 w xs T _ rfl xs.length rfl
  rwa [alloc_size]
theorem key_below {w w' : World} {A : Option Addr} {n c : Nat} {T : List Int} (h : Key w A n c T) (b : Below w.heap.size w w') : Key w' A n c T := ⟨(h.nums.below b).more b.size, h.byte, h.cap, h.max⟩
theorem key_nil (w : World) : Key w none 0 0 [] := ⟨Nums.none_ 0, fun x hx => (by cases hx), by decide, by decide⟩
theorem own_capO {k : IntKind} {e : TypeId} {w : World} {base : Nat} {A : Option Addr} {n c : Nat} {xs : List Int} (O : Own k e w base (.slice A n c) xs) : n ≤ c ∧ c ≤ 9223372036854775807 := by
  obtain ⟨A', c', he, h1, h2, _⟩ := O.form
  simp only [Value.slice.injEq] at he
  unfold maxLen at h2
  omega
/-- append of some bytes onto a literal of two, which has no room for them -/
theorem app_lit (w : World) (q : Nat) (a b : Int) (hr : w.heap[q]? = some (.cells #[.int .u8 a, .int .u8 b] 5 (0, 0))) (B : Nat) (A : Option Addr) (n c : Nat) (xs : List Int) (hx : Nums .u8 w B A n xs) (hn : 0 < n) (hm : n ≤ 1000) (ty : TypeId) (L : Nat) (hL : 2 + n = L) :
    ∃ A' c' w', (Builtin.append_ #[32, 32] ty #[.slice (some ⟨q, 0, none⟩) 2 2, .slice A n c]).run Tryd.prog w = .ok (.slice A' L c') w' ∧ Own .u8 5 w' w.heap.size (.slice A' L c') ([a, b] ++ xs) ∧ Below w.heap.size w w' := by
  subst hL
  obtain ⟨i, hi, hz, hs, hb⟩ := info_parts octC.byte_info
  obtain ⟨b0, o0, rfl, _, hc⟩ := hx.at_ hn
  have holds : ∀ j v, (([a, b] : List Int).map (Value.int .u8))[j]? = some v → w.cell? ((⟨q, 0, none⟩ : Addr).add j) = some v := fun j v hv => by
    rw [memC.add_plain, cell_of_row w q (0 + j) _ _ (0, 0) hr, Nat.zero_add]
    simpa using hv
  have hr := Go.run_append_grow (P := Tryd.prog) w 32 ty 5 i _ Tryd.underlying32 hi hz ⟨q, 0, none⟩ 2 2 (([a, b] : List Int).map (Value.int .u8)) (by rw [hs]; rfl) holds ⟨b0, o0, none⟩ n c (xs.map (Value.int .u8)) (by rw [hs]; simp [hx.len]) (hx.news rfl) (by omega) (by omega)
    (by have := growslice_fits (need := 2 + n) (old := 2) (bytes := i.bytes) (by omega) (by rw [hb]; omega); exact this)
  have hge := grownCap_ge w (2 + n) 2 5
  have hcm : grownCap w (2 + n) 2 5 ≤ maxLen := grownCap_le_maxLen w (2 + n) 2 5 (by simp only [maxLen]; omega)
  refine ⟨_, _, _, hr, ?_, ⟨rfl, rfl, rfl, by simp, fun k hk => heap_alloc_old w.drew _ hk⟩⟩
  unfold Own
  rw [show ([a, b] ++ xs).length = 2 + n by simp [hx.len]; omega]
  refine ⟨by simp [hx.len]; omega, .inr ⟨w.heap.size, _, _, rfl, Nat.le_refl _, heap_alloc_new w.drew _, hge, hcm, ?_, ?_⟩⟩
  · simp [size_zeroCells, Value.cells, hx.len]
    omega
  · simp only [Array.toList_append, List.append_assoc]
    rw [← List.append_assoc, ← List.map_append]
    have e : (2 + n) * 1 = (([a, b] ++ xs).map (Value.int .u8)).length := by simp [hx.len]; omega
    rw [e]
    exact List.take_left
theorem app_lit_op {R : Value → World → Prop} {fr : Act} {o : Oper} {w : World} {Q : Exit → Act → World → Prop} (s x : Operand) (ho : o.op = .call { callee := .builtin .append, args := #[s, x], argTypes := #[32, 32] }) (q : Nat) (a b : Int) (hr : w.heap[q]? = some (.cells #[.int .u8 a, .int .u8 b] 5 (0, 0))) (hs : fr.eval s = .slice (some ⟨q, 0, none⟩) 2 2)
    (B : Nat) (A : Option Addr) (n c : Nat) (xs : List Int) (he : fr.eval x = .slice A n c) (hx : Nums .u8 w B A n xs) (hn : 0 < n) (hm : n ≤ 1000) (L : Nat) (hL : 2 + n = L)
    (h : ∀ A' c' w', Own .u8 5 w' w.heap.size (.slice A' L c') ([a, b] ++ xs) → Below w.heap.size w w' → R (.slice A' L c') w') : o.wp Tryd.prog fr w (fun a' w' => ∃ v, a' = fr.put o.dst v ∧ R v w') Q := by
  obtain ⟨A', c', w', hrun, h1, h2⟩ := app_lit w q a b hr B A n c xs hx hn hm o.type L hL
  unfold Oper.wp execOp
  simp only [ho, resolve, invoke, builtin, Sem.run_bind, Sem.run_pure, Result.andThen_ok, List.map_toArray, List.map_cons, List.map_nil, hs, he, hrun]
  exact ⟨_, rfl, h A' c' w' h1 h2⟩
theorem blk_zero (w : World) : (zeroValue 101).run Tryd.prog w = .ok (.agg #[.int .u32 0, .int .u32 0]) w := by
  obtain ⟨i, hi, he⟩ := Option.map_eq_some_iff.1 blk_info
  simp [zeroValue, typeInfo, hi, (Prod.mk.inj he).1]
theorem blk_size : (Tryd.prog.info? 101).map (·.size) = some 2 := by kernel_rfl
theorem sk_drop {l : List (Int × Int)} {i : Nat} (h : i < l.length) : skL (l.take (i + 1)) = skL (l.take i) ++ (numL 4 (l.getD i (0, 0)).1 ++ numL 4 (l.getD i (0, 0)).2) := by
  unfold skL
  rw [List.take_add_one, List.flatMap_append, List.getD_eq_getElem?_getD, List.getElem?_eq_getElem h]
  simp
def toV (g0 : Nat) (ki ni : Int) (M : List Int) : Nat → Value → World → Prop
  | 0, v, _ => v = .pointer (some ⟨g0, 10, none⟩)
  | 1, v, _ => v = .int .u8 ki
  | 2, v, _ => v = .pointer (some ⟨g0, 11, none⟩)
  | 3, v, _ => v = .int .u8 ni
  | 4, v, w => ∃ q, v = .slice (some ⟨q, 0, none⟩) 2 2 ∧ w.heap[q]? = some (.cells #[.int .u8 ki, .int .u8 ni] 5 (0, 0))
  | 5, v, _ => v = .pointer (some ⟨g0, 12, none⟩)
  | 6, v, _ => v = .slice (some ⟨g0, 12, none⟩) 12 12
  | 7, v, w => ∃ A' c', v = .slice A' 14 c' ∧ Own .u8 5 w g0 (.slice A' 14 c') ([ki, ni] ++ M)
  | 8, v, w => ∃ A' c', v = .slice A' 14 c' ∧ Own .u8 5 w g0 (.slice A' 14 c') ([ki, ni] ++ M)
  | _, _, _ => True
theorem toV.keep (g0 : Nat) (ki ni : Int) (M : List Int) (i : Nat) (v : Value) (w w' : World) (hb : Below w.heap.size w w') (h : toV g0 ki ni M i v w) : toV g0 ki ni M i v w' := by
  by_cases e4 : i = 4
  · subst e4
    obtain ⟨q, h1, h2⟩ := h
    exact ⟨q, h1, by rw [hb.block _ (lt_of_row h2)]; exact h2⟩
  by_cases e7 : i = 7
  · subst e7
    obtain ⟨A', c', h1, h2⟩ := h
    exact ⟨A', c', h1, h2.below hb⟩
  by_cases e8 : i = 8
  · subst e8
    obtain ⟨A', c', h1, h2⟩ := h
    exact ⟨A', c', h1, h2.below hb⟩
  unfold toV at h ⊢
  split at h <;> first | exact h | exact absurd rfl (by assumption)
def toT : List (Option Nat) := [none, none, none, none, some 8, none, none, none, none, none, none, none, none, none, none, none, none, none, none, none, none, none, none, none, none, none, none, none, none, none, none, none, none, none, none, none, none, none, none, none, none, none, none, none, none, none, none, none, none, none, none, none, none, some 0, some 1, some 2, some 3, some 4, some 5, some 6, some 7]
theorem gr_drewO (w : World) (n : Nat) : Gr w (w.drewN n) := bel_drewN (Below.refl _ _) n
set_option maxRecDepth 100000 in
set_option maxHeartbeats 2000000 in
theorem told_any (o : Opt) (A : Option Addr) (n c : Nat) (k : Int) (w : World) (ho : o.Ok) (hn : o.sk.length = n) (hs : Prs w w.heap.size A n o.sk) (hm : n ≤ 100) :
    Calls Tryd.prog 60 #[.agg (optV o A n c), .int .u8 k] w (BytesRet w (toldL o k).length (toldL o k)) := by
  obtain ⟨C, hC⟩ : ∃ C, C = optV o A n c := ⟨_, rfl⟩
  have OC : OptC C o A n c := by rw [hC]; exact optC ho.lm A n c
  rw [← hC]
  clear hC
  obtain ⟨W, hW⟩ : ∃ W, W = w.alloc (.cells C 31) := ⟨_, rfl⟩
  have R := Lib.hid (show W.heap[w.heap.size]? = some (.cells C 31 (0, 0)) by rw [hW]; exact heap_alloc_new _ _)
  have HB := Lib.hid (show Below w.heap.size w W by rw [hW]; exact alloc_below _ _)
  have hms := ho.ms
  have hsc := ho.sc
  have hva := ho.va
  have hec := ho.ec
  unfold U32 at hva hec
  by_cases h2 : k = 2
  · subst h2
    have c0 := pkC.PkC.cell R.out OC.ms
    show Calls _ _ _ _ (BytesRet w (toldL o 2).length (numL 2 o.ms))
    rw [show (toldL o 2).length = 2 from numL_len 2 _]
    have wz : IntKind.u64.wrap o.ms = o.ms := IntWalk.u64_in _ (by omega)
    have PU := Lib.hid (fun w' => put_key (w := w'.alloc (.cells #[.int .u64 o.ms] 60)) (m := 1) (c2 := 1) (bs := []) (ns := [o.ms]) 2 2 2 (numL 2 o.ms) rfl (by decide) (key_nil _) (lit64 w' [o.ms] 60) (by decide) (by simp) (by simp [octC.putL]) (numL_len 2 _))
    generalize numL 2 o.ms = T at *
    generalize o.ms = x at *
    clear hn hs hm ho OC hsc hva hec hms
    go_enter Tryd.func60, Tryd.ntmps60
    go_upto_region 1 with fail
    rw [← hW]
    clear hW
    go_wp2_with (first
      | (go_at_call 30; (refine (PU.out _).mono ?_); rintro e w4 ⟨A4, c4, rfl, O4, K4, B4⟩
         have HO := Lib.hid (O4.less (Nat.le_trans HB.out.size (alloc_below W (.cells #[.int .u64 x] 60)).size))
         have HK := Lib.hid K4
         have HB4 := Lib.hid (HB.out.trans (((alloc_below W (.cells #[.int .u64 x] 60)).trans (B4.mono (alloc_below _ _).size)).mono HB.out.size))
         clear O4 K4 B4))
    go_ret
    exact ⟨A4, c4, rfl, HO.out, HK.out, HB4.out⟩
  by_cases h3 : k = 3
  · subst h3
    have c0 := pkC.PkC.cell R.out OC.sc
    show Calls _ _ _ _ (BytesRet w 1 [o.sc])
    generalize o.sc = x at *
    clear hn hs hm ho OC hms hva hec h2
    go_enter Tryd.func60, Tryd.ntmps60
    go_upto_region 1 with fail
    rw [← hW]
    clear hW
    go_wp2_with fail
    go_ret
    have O : Own .u8 5 (W.alloc (.cells #[.int .u8 x] 5)) w.heap.size (.slice (some ⟨W.heap.size, 0, none⟩) 1 1) [x] := Own.lit W _ x HB.out.size
    exact ⟨_, 1, rfl, O, ⟨O.nums, fun y hy => by rw [List.mem_singleton.1 hy]; exact hsc, by decide, by decide⟩, HB.out.trans ((alloc_below W _).mono HB.out.size)⟩
  by_cases h8 : k = 8
  · subst h8
    have c0 := pkC.PkC.cell R.out OC.va
    have c1 := pkC.PkC.cell R.out OC.ec
    show Calls _ _ _ _ (BytesRet w (toldL o 8).length (numL 4 o.va ++ numL 4 o.ec))
    have e8 : (numL 4 o.va ++ numL 4 o.ec).length = 8 := by rw [List.length_append, numL_len, numL_len]
    rw [show (toldL o 8).length = 8 from e8]
    have wz : IntKind.u64.wrap o.va = o.va := IntWalk.u64_in _ (by omega)
    have wy : IntKind.u64.wrap o.ec = o.ec := IntWalk.u64_in _ (by omega)
    have PU := Lib.hid (fun w' => put_key (w := w'.alloc (.cells #[.int .u64 o.va, .int .u64 o.ec] 60)) (m := 2) (c2 := 2) (bs := []) (ns := [o.va, o.ec]) 4 4 8 (numL 4 o.va ++ numL 4 o.ec) rfl (by decide) (key_nil _) (lit64 w' [o.va, o.ec] 60) (by decide) (by simp) (by simp [octC.putL]) e8)
    generalize numL 4 o.va ++ numL 4 o.ec = T at *
    generalize o.va = x at *
    generalize o.ec = y at *
    clear hn hs hm ho OC hsc hva hec hms h2 h3 e8
    go_enter Tryd.func60, Tryd.ntmps60
    go_upto_region 1 with fail
    rw [← hW]
    clear hW
    go_wp2_with (first
      | (go_at_call 30; (refine (PU.out _).mono ?_); rintro e w4 ⟨A4, c4, rfl, O4, K4, B4⟩
         have HO := Lib.hid (O4.less (Nat.le_trans HB.out.size (alloc_below W (.cells #[.int .u64 x, .int .u64 y] 60)).size))
         have HK := Lib.hid K4
         have HB4 := Lib.hid (HB.out.trans (((alloc_below W (.cells #[.int .u64 x, .int .u64 y] 60)).trans (B4.mono (alloc_below _ _).size)).mono HB.out.size))
         clear O4 K4 B4))
    go_ret
    exact ⟨A4, c4, rfl, HO.out, HK.out, HB4.out⟩
  by_cases h5 : k = 5
  · subst h5
    have c0 := pkC.PkC.cell R.out OC.sk
    show Calls _ _ _ _ (BytesRet w (toldL o 5).length (skL o.sk))
    obtain ⟨N, hN⟩ : ∃ N, 8 * n = N := ⟨_, rfl⟩
    rw [show (toldL o 5).length = N by show (skL o.sk).length = N; rw [skL_len, hn]; exact hN]
    have HS := Lib.hid ((hs.below HB.out).more HB.out.size)
    have HY := Lib.hid ho.sk
    have HN := Lib.hid hn
    have HM := Lib.hid hm
    have HE := Lib.hid hN
    have hzv := blk_zero
    generalize o.sk = l at *
    clear hn hs hm ho OC hms hva hec h2 h3 h8 hN hsc
    go_enter Tryd.func60, Tryd.ntmps60
    go_upto_region 1 with fail
    rw [← hW]
    clear hW
    go_wp2_with fail
    go_loopw [5, 36] (fun v u wr => ∃ (i : Nat) (Ab : Option Addr) (L cb : Nat), i ≤ n ∧ 8 * i = L ∧ v = .slice Ab L cb ∧ u = .int .i64 i ∧ Own .u8 5 wr W.heap.size (.slice Ab L cb) (skL (l.take i)) ∧ Key wr Ab L cb (skL (l.take i)) ∧ Below W.heap.size W wr) (fun _ u _ => n - (intOf u).toNat)
    case atStart => exact ⟨0, none, 0, 0, by omega, rfl, rfl, rfl, by simpa [skL] using Own.nil _ _, by simpa [skL] using key_nil _, Below.refl _ _⟩
    case round =>
      obtain ⟨i, Ab, L, cb, hi, hL, rfl, rfl, O, K, BW⟩ := hrel
      have HBW := Lib.hid BW
      by_cases hlt : i < n
      · obtain ⟨b, off, hA, hb, e0, e1⟩ := HS.out.cell hlt
        have d0 := (BW.cell (p := ⟨b, off + i * 2, none⟩) hb).trans e0
        have d1 := (BW.cell (p := ⟨b, off + i * 2 + 1, none⟩) hb).trans e1
        have hst := sk_drop (l := l) (i := i) (by rw [HN.out]; exact hlt)
        obtain ⟨yx, yy⟩ := HY.out (l.getD i (0, 0)) (by
          rw [List.getD_eq_getElem?_getD, List.getElem?_eq_getElem (by rw [HN.out]; exact hlt)]; exact List.getElem_mem _)
        unfold U32 at yx yy
        have q6 : (i : Int) < (n : Int) := by omega
        have hm9 := HM.out
        have wi : IntKind.i64.wrap ((i : Int) + 1) = (i : Int) + 1 := IntWalk.i64_in _ (by omega)
        have HI := Lib.hid hlt
        have HL := Lib.hid hL
        obtain ⟨L2, hL2⟩ : ∃ L2, L + 8 = L2 := ⟨_, rfl⟩
        have HL2 := Lib.hid hL2
        generalize (l.getD i (0, 0)).1 = x at *
        generalize (l.getD i (0, 0)).2 = y at *
        have wx : IntKind.u64.wrap x = x := IntWalk.u64_in _ (by omega)
        have wy : IntKind.u64.wrap y = y := IntWalk.u64_in _ (by omega)
        have KL := K.nums.len
        have HK := Lib.hid K
        have HST := Lib.hid hst
        have PU := Lib.hid (fun (w' : World) (hK : Key (w'.alloc (.cells #[.int .u64 x, .int .u64 y] 60)) Ab L cb (skL (l.take i))) => put_key (w := w'.alloc (.cells #[.int .u64 x, .int .u64 y] 60)) (m := 2) (c2 := 2) (bs := skL (l.take i)) (ns := [x, y]) 4 4 L2 (skL (l.take (i + 1))) rfl (by decide) hK (lit64 w' [x, y] 60) (by have := HM.out; omega) (by simp) (by rw [hst]; simp [octC.putL]) (by rw [hst, List.length_append, List.length_append, numL_len, numL_len, KL]; omega))
        have hcell : ∀ j v, ([.int .u32 x, .int .u32 y] : List Value)[j]? = some v → wr.cell? ⟨b, off + i * 2 + j, none⟩ = some v := fun j v hv => by
          match j, hv with
          | 0, hv => rw [← Option.some.inj hv]; exact d0
          | 1, hv => rw [← Option.some.inj hv]; exact d1
        have HC := Lib.hid hcell
        subst hA
        clear O K BW hi hlt hL hst yx yy KL hcell d0 d1 e0 e1 hb hL2
        go_upto_region 13 with (first
          | (refine partC.wpList_load_part rfl 101 (.tmp 38) rfl b (off + i * 2) rfl [.int .u32 x, .int .u32 y] _ HC.out Tryd.underlying101 rfl blk_size ?_)
          | (refine wpList_store_row rfl 101 (.tmp 7) (.tmp 39) rfl wr.heap.size #[.int .u32 x, .int .u32 y] rfl rfl _ _ (heap_alloc_new _ _) blk_size rfl rfl ?_; rw [World.setRow_alloc_new]))
        have B5 := Lib.hid (alloc_below wr (.cells #[.int .u32 x, .int .u32 y] 101))
        have f0 : (wr.alloc (.cells #[.int .u32 x, .int .u32 y] 101)).cell? ⟨wr.heap.size, 0, none⟩ = some (.int .u32 x) := by rw [cell_alloc_new]; rfl
        have f1 : (wr.alloc (.cells #[.int .u32 x, .int .u32 y] 101)).cell? ⟨wr.heap.size, 1, none⟩ = some (.int .u32 y) := by rw [cell_alloc_new]; rfl
        generalize wr.alloc (.cells #[.int .u32 x, .int .u32 y] 101) = w3 at *
        clear hzv
        go_wp2_with (first
          | (go_at_call 30
             go_loud (refine (PU.out _ (key_below HK.out (B5.out.trans ((alloc_below _ _).mono B5.out.size)))).mono ?_)
             rintro e w4 ⟨A4, c4, rfl, O4, K4, B4⟩
             have B6 := B5.out.trans ((alloc_below w3 (.cells #[.int .u64 x, .int .u64 y] 60)).mono B5.out.size)
             have HO := Lib.hid (O4.less (Nat.le_trans HBW.out.size B6.size))
             have HK4 := Lib.hid K4
             have HB4 := Lib.hid (HBW.out.trans ((B6.trans (B4.mono B6.size)).mono HBW.out.size))
             clear O4 K4 B4 B6))
        go_roundw
        case rel => exact ⟨i + 1, A4, L2, c4, by have := HI.out; omega, by have := HL.out; have := HL2.out; omega, rfl, by go_num, HO.out, HK4.out, HB4.out⟩
        case measure => simp [intOf]; omega
      · have h6 : i = n := by omega
        subst h6
        have hLN : L = N := by have := HE.out; omega
        subst hLN
        have e : l.take i = l := List.take_of_length_le (by rw [HN.out]; exact Nat.le_refl _)
        rw [e] at O K
        have HO := Lib.hid (O.less HB.out.size)
        have HK := Lib.hid K
        clear O K e BW hlt hi
        go_wp2_with fail
        go_ret
        exact ⟨_, _, rfl, HO.out, HK.out, HB.out.trans (HBW.out.mono HB.out.size)⟩
  by_cases h29 : k = 29
  · subst h29
    show Calls _ _ _ _ (BytesRet w (toldL o 29).length ([o.ki, o.ni] ++ o.mac))
    rw [show (toldL o 29).length = 14 by show (o.ki :: o.ni :: o.mac).length = 14; simp [ho.lm]]
    have KR := Lib.hid (fun (w' : World) (h : Below W.heap.size W w') => (show w'.heap[w.heap.size]? = some (.cells C 31 (0, 0)) by rw [h.block _ (lt_of_row R.out)]; exact R.out))
    have K10 := Lib.hid (fun w' (h : Below W.heap.size W w') => pkC.PkC.cell (KR.out w' h) OC.ki)
    have K11 := Lib.hid (fun w' (h : Below W.heap.size W w') => pkC.PkC.cell (KR.out w' h) OC.ni)
    have MN := Lib.hid (fun w' (h : Below W.heap.size W w') => (show Nums .u8 w' w'.heap.size (some ⟨w.heap.size, 12, none⟩) 12 o.mac from ⟨ho.lm, fun _ => ⟨_, 12, rfl, lt_of_row (KR.out w' h), fun i hi => pkC.PkC.cell (KR.out w' h) (OC.mac i _ (by
      have : i < o.mac.length := by rw [ho.lm]; exact hi
      simp [macL, List.getD_eq_getElem?_getD, this]))⟩⟩))
    have L0 := Lib.hid (show w.heap.size ≤ W.heap.size from HB.out.size)
    have HY := Lib.hid (show ∀ x ∈ [o.ki, o.ni] ++ o.mac, Byte x by
      intro x hx
      rcases List.mem_append.1 hx with h | h
      · simp at h
        rcases h with rfl | rfl
        · exact ho.ki
        · exact ho.ni
      · exact ho.ym x h)
    generalize o.ki = ki at *
    generalize o.ni = ni at *
    generalize o.mac = M at *
    clear hn hs hm ho OC hms hva hec h2 h3 h8 h5 hsc
    go_enter Tryd.func60, Tryd.ntmps60
    go_upto_region 1 with fail
    rw [← hW]
    clear hW
    go_upto_region 17 with fail
    refine with_act fun a0 ha0 => ?_
    have hl : toT.length = a0.tmps.size := by rw [ha0]; rfl
    have k2 : a0.tmps[2]?.getD undef = .pointer (some ⟨w.heap.size, 0, none⟩) := by rw [ha0]; rfl
    refine wp_region_vals (by kernel_rfl) toT (by kernel_rfl) (by kernel_rfl) hl (fun i => if i = 8 then .slice none 0 0 else undef) (by rw [ha0]; rfl) (Gr W) (toV w.heap.size ki ni M) (gr_drewO _ _) (toV.keep _ _ _ _) ⟨?_, ?_, ?_, ?_, ?_, ?_, ?_, ?_, ?_, trivial⟩ ?_
    · refine step_plain [] (by kernel_rfl) rfl fun us w' hG hV => ?_
      have o2 := (frame_old2 (us := us) (a := a0) (show (toT[2]?).join = none from rfl)).trans k2
      generalize frame toT a0 us = fr at *
      exact val_ok (v := .pointer (some ⟨w.heap.size, 10, none⟩)) (w' := w') (by go_simp) hG (Below.refl _ _) rfl
    · refine step_plain [0] (by kernel_rfl) rfl fun us w' hG hV => ?_
      have e0 : us 0 = .pointer (some ⟨w.heap.size, 10, none⟩) := hV 0 (by simp)
      have v0 := (frame_at2 (us := us) hl (show (toT[53]?).join = some 0 from rfl)).trans e0
      have hc := K10.out w' hG
      generalize frame toT a0 us = fr at *
      exact val_ok (v := .int .u8 ki) (w' := w') (by go_simp) hG (Below.refl _ _) rfl
    · refine step_plain [] (by kernel_rfl) rfl fun us w' hG hV => ?_
      have o2 := (frame_old2 (us := us) (a := a0) (show (toT[2]?).join = none from rfl)).trans k2
      generalize frame toT a0 us = fr at *
      exact val_ok (v := .pointer (some ⟨w.heap.size, 11, none⟩)) (w' := w') (by go_simp) hG (Below.refl _ _) rfl
    · refine step_plain [2] (by kernel_rfl) rfl fun us w' hG hV => ?_
      have e2 : us 2 = .pointer (some ⟨w.heap.size, 11, none⟩) := hV 2 (by simp)
      have v2 := (frame_at2 (us := us) hl (show (toT[55]?).join = some 2 from rfl)).trans e2
      have hc := K11.out w' hG
      generalize frame toT a0 us = fr at *
      exact val_ok (v := .int .u8 ni) (w' := w') (by go_simp) hG (Below.refl _ _) rfl
    · refine step_plain [1, 3] (by kernel_rfl) rfl fun us w' hG hV => ?_
      have e1 : us 1 = .int .u8 ki := hV 1 (by simp)
      have v1 := (frame_at2 (us := us) hl (show (toT[54]?).join = some 1 from rfl)).trans e1
      have e3 : us 3 = .int .u8 ni := hV 3 (by simp)
      have v3 := (frame_at2 (us := us) hl (show (toT[56]?).join = some 3 from rfl)).trans e3
      generalize frame toT a0 us = fr at *
      exact val_ok (v := .slice (some ⟨w'.heap.size, 0, none⟩) 2 2) (w' := w'.alloc (.cells #[.int .u8 ki, .int .u8 ni] 5)) (by go_simp) (hG.below (alloc_below _ _)) (alloc_below _ _) ⟨_, rfl, heap_alloc_new _ _⟩
    · refine step_plain [] (by kernel_rfl) rfl fun us w' hG hV => ?_
      have o2 := (frame_old2 (us := us) (a := a0) (show (toT[2]?).join = none from rfl)).trans k2
      generalize frame toT a0 us = fr at *
      exact val_ok (v := .pointer (some ⟨w.heap.size, 12, none⟩)) (w' := w') (by go_simp) hG (Below.refl _ _) rfl
    · refine step_plain [5] (by kernel_rfl) rfl fun us w' hG hV => ?_
      have e5 : us 5 = .pointer (some ⟨w.heap.size, 12, none⟩) := hV 5 (by simp)
      have v5 := (frame_at2 (us := us) hl (show (toT[58]?).join = some 5 from rfl)).trans e5
      generalize frame toT a0 us = fr at *
      exact val_ok (v := .slice (some ⟨w.heap.size, 12, none⟩) 12 12) (w' := w') (by go_simp) hG (Below.refl _ _) rfl
    · refine step_plain [4, 6] (by kernel_rfl) rfl fun us w' hG hV => ?_
      obtain ⟨q4, e4, r4⟩ := (show ∃ q, us 4 = .slice (some ⟨q, 0, none⟩) 2 2 ∧ w'.heap[q]? = some (.cells #[.int .u8 ki, .int .u8 ni] 5 (0, 0)) from hV 4 (by simp))
      have v4 := (frame_at2 (us := us) hl (show (toT[57]?).join = some 4 from rfl)).trans e4
      have e6 : us 6 = .slice (some ⟨w.heap.size, 12, none⟩) 12 12 := hV 6 (by simp)
      have v6 := (frame_at2 (us := us) hl (show (toT[59]?).join = some 6 from rfl)).trans e6
      generalize frame toT a0 us = fr at *
      exact app_lit_op (.tmp 57) (.tmp 59) rfl q4 ki ni r4 (eval_tmp v4) w'.heap.size _ 12 12 M (eval_tmp v6) (MN.out w' hG) (by decide) (by decide) 14 rfl (fun A' c' w'' h1 h2 => ⟨hG.below h2, h2, A', c', rfl, h1.less (Nat.le_trans L0.out (Below.size hG))⟩)
    · refine step_plain [7] (by kernel_rfl) rfl fun us w' hG hV => ?_
      obtain ⟨A7, c7, e7, P7⟩ := (show ∃ A' c', us 7 = .slice A' 14 c' ∧ Own .u8 5 w' w.heap.size (.slice A' 14 c') ([ki, ni] ++ M) from hV 7 (by simp))
      have v7 := (frame_at2 (us := us) hl (show (toT[60]?).join = some 7 from rfl)).trans e7
      generalize frame toT a0 us = fr at *
      exact val_ok (v := .slice A7 14 c7) (w' := w') (by go_simp) hG (Below.refl _ _) ⟨A7, c7, rfl, P7⟩
    · intro us w5 hG hV
      obtain ⟨A4, c4, e8, O4⟩ := (show ∃ A' c', us 8 = .slice A' 14 c' ∧ Own .u8 5 w5 w.heap.size (.slice A' 14 c') ([ki, ni] ++ M) from hV 8 (by decide))
      subst ha0
      simp only [frame, toT, fill]
      rw [e8]
      have HO := Lib.hid O4
      have HG3 := Lib.hid hG
      clear hV hl hG O4 k2 e8
      go_wp2_with fail
      go_ret
      exact ⟨A4, c4, rfl, HO.out, ⟨HO.out.nums, HY.out, (own_capO HO.out).1, (own_capO HO.out).2⟩, HB.out.trans (HG3.out.mono HB.out.size)⟩
  have e : toldL o k = [] := by unfold toldL; simp only [h2, h3, h8, h5, h29, if_false]; split <;> rfl
  rw [e]
  have q2 : (k == 2) = false := beq_eq_false_iff_ne.2 h2
  have q3 : (k == 3) = false := beq_eq_false_iff_ne.2 h3
  have q8 : (k == 8) = false := beq_eq_false_iff_ne.2 h8
  have q5 : (k == 5) = false := beq_eq_false_iff_ne.2 h5
  have q29 : (k == 29) = false := beq_eq_false_iff_ne.2 h29
  clear hn hs hm ho OC hms hva hec h2 h3 h8 h5 h29 hsc e
  go_enter Tryd.func60, Tryd.ntmps60
  go_upto_region 1 with fail
  rw [← hW]
  clear hW
  go_wp2_with fail
  go_ret
  exact ⟨none, 0, rfl, Own.nil _ _, key_nil _, HB.out⟩
end Go.Proofs.YtniimgbljhmcoaaDoor.opC

/-
  append(own, make([]byte, m)...): zeros behind an own slice of bytes.
-/
namespace Go.Proofs.YtniimgbljhmcoaaDoor.opC
open Go.ChangeShapes Go.WideShapes Go.ChangeAt Go.RowKit
open Go.Proofs.YtniimgbljhmcoaaDoor.memC
set_option linter.unusedVariables false
theorem zero_cells (m : Nat) : (Builtin.zeroCells (Value.int .u8 0).cells m) = ((List.replicate m (0 : Int)).map (Value.int .u8)).toArray := by
  apply Array.ext
  · simp [size_zeroCells, Value.cells]
  · intro i h1 h2
    simp [Builtin.zeroCells, Value.cells, Nat.mod_one]
theorem run_zeros_room {P : Program} (w : World) (t tn ty e : TypeId) (i : TypeInfo) (k kn : IntKind) (ht : P.underlying t = some (.slice e)) (htn : P.underlying tn = some (.int kn)) (hi : P.info? e = some i) (hz : i.zero = some (.int .u8 0)) (hs : i.size = 1) (hb : i.bytes = 1)
    (g sLen sCap : Nat) (cur : Array Value) (hg : w.heap[g]? = some (.cells cur e (0, 0))) (n : Nat) (h0 : 0 < n) (hn : n ≤ 1000) (hroom : sLen + n ≤ sCap) (hfit : sLen + n ≤ cur.size) :
    (Builtin.append_ #[t, tn] ty #[.slice (some ⟨g, 0, none⟩) sLen sCap, .int k n]).run P w =
      .ok (.slice (some ⟨g, 0, none⟩) (sLen + n) sCap) (w.setRow g (cur.toList.take sLen ++ (List.replicate n (0 : Int)).map (Value.int .u8) ++ cur.toList.drop (sLen + n)).toArray) := by
  have hw : IntKind.i64.wrap (n : Int) = n := by rw [IntKind.wrap_i64]; omega
  have hneg : ¬ ((n : Int) < 0) := by omega
  have h48i : ¬ (281474976710656 < (n : Int)) := by omega
  have hns : ¬ (n = 0) := by omega
  have hst := run_storeCells_at P g sLen e ((List.replicate n (0 : Int)).map (Value.int .u8)) 0 cur w hg (by simpa using hfit) (fun u hu => by obtain ⟨x, _, rfl⟩ := List.mem_map.1 hu; rfl)
  simp only [Nat.add_zero, List.map_replicate] at hst
  have hzc := zero_cells n
  simp [Builtin.append_, run_underlying ht, run_underlying htn, sizeOf, typeInfo, zeroValue, hi, hz, asInt, asIntOf, hw, hneg, hb, hs, h48i, hns, hroom, Addr.add_lit, hst, hzc]
theorem run_zeros_grow {P : Program} (w : World) (t tn ty e : TypeId) (i : TypeInfo) (k kn : IntKind) (ht : P.underlying t = some (.slice e)) (htn : P.underlying tn = some (.int kn)) (hi : P.info? e = some i) (hz : i.zero = some (.int .u8 0)) (hs : i.size = 1) (hb : i.bytes = 1)
    (b : Addr) (sLen sCap : Nat) (olds : List Value) (hlo : olds.length = sLen) (holds : ∀ j v, olds[j]? = some v → w.cell? (b.add j) = some v) (n : Nat) (h0 : 0 < n) (hn : n ≤ 1000)
    (hg : sCap < sLen + n) (h63 : sLen + n ≤ 1000000) :
    (Builtin.append_ #[t, tn] ty #[.slice (some b) sLen sCap, .int k n]).run P w =
      .ok (.slice (some ⟨w.heap.size, 0, none⟩) (sLen + n) (grownCap w (sLen + n) sCap e))
        (w.drew.alloc (.cells (olds.toArray ++ ((List.replicate n (0 : Int)).map (Value.int .u8)).toArray ++ Builtin.zeroCells (Value.int .u8 0).cells (grownCap w (sLen + n) sCap e - (sLen + n))) e)) := by
  have hnr : ¬ (sLen + n ≤ sCap) := by omega
  have hw : IntKind.i64.wrap (n : Int) = n := by rw [IntKind.wrap_i64]; omega
  have hneg : ¬ ((n : Int) < 0) := by omega
  have h48i : ¬ (281474976710656 < (n : Int)) := by omega
  have hns : ¬ (n = 0) := by omega
  have h63' : ¬ (9223372036854775807 < ((sLen : Int) + (n : Int))) := by omega
  have h48' : ¬ (281474976710656 < Builtin.nextslicecap (sLen + n) sCap) := by
    have := growslice_fits (need := sLen + n) (old := sCap) (bytes := 1) (by omega) (by omega)
    omega
  have hfo := run_firstCells_some (P := P) w.drew 1 sLen b sLen sCap olds (by omega) (by simpa using holds)
  have hzc := zero_cells n
  simp [Builtin.append_, run_underlying ht, run_underlying htn, sizeOf, typeInfo, zeroValue, hi, hz, asInt, asIntOf, hw, hneg, hb, hs, h48i, hns, hnr, h63', h48', Question.forced, hfo, newRow, grownCap, hzc]
/-- append(own, make([]byte, m)...) -/
theorem run_app_zeros (w : World) (base : Nat) (v : Value) (xs : List Int) (hown : Own .u8 5 w base v xs) (ty : TypeId) (m : Nat) (hm : m ≤ 1000) (hl : xs.length ≤ 100000) (hbase : base ≤ w.heap.size) :
    ∃ v' w', (Builtin.append_ #[32, 3] ty #[v, .int .i64 m]).run Tryd.prog w = .ok v' w' ∧ Own .u8 5 w' base v' (xs ++ List.replicate m 0) ∧ w.grownBy w' v.ownBlock := by
  obtain ⟨i, hi, hz, hs, hb⟩ := info_parts octC.byte_info
  rcases Nat.eq_zero_or_pos m with h0 | h0
  · subst h0
    refine ⟨v, w, ?_, by simpa using hown, World.grownBy.refl w _⟩
    have w0 : IntKind.i64.wrap 0 = 0 := by rw [IntKind.wrap_i64]; omega
    rcases hown.2 with ⟨rfl, hn⟩ | ⟨g, cap, cur, rfl, hb', hh, hnc, hcm, hsz, htk⟩
    · simp [w0, Builtin.append_, run_underlying Tryd.underlying32, run_underlying Tryd.underlying3, sizeOf, typeInfo, hi, hb, asInt, asIntOf]
    · simp [w0, Builtin.append_, run_underlying Tryd.underlying32, run_underlying Tryd.underlying3, sizeOf, typeInfo, hi, hb, asInt, asIntOf, hnc, storeCells]
  · have hlen : ((xs ++ List.replicate m 0).map (Value.int .u8)).length = (xs.length + m) * 1 := by simp
    have fin : ∀ (old : Nat) (row : Option Nat), (w.drew.alloc (.cells ((xs.map (Value.int .u8)).toArray ++ ((List.replicate m (0 : Int)).map (Value.int .u8)).toArray ++ Builtin.zeroCells (Value.int .u8 0).cells (grownCap w (xs.length + m) old 5 - (xs.length + m))) 5)).ownsRow base 5 1
        (.slice (some ⟨w.heap.size, 0, none⟩) (xs.length + m) (grownCap w (xs.length + m) old 5)) (xs.length + m) ((xs ++ List.replicate m 0).map (Value.int .u8)) ∧
        w.grownBy (w.drew.alloc (.cells ((xs.map (Value.int .u8)).toArray ++ ((List.replicate m (0 : Int)).map (Value.int .u8)).toArray ++ Builtin.zeroCells (Value.int .u8 0).cells (grownCap w (xs.length + m) old 5 - (xs.length + m))) 5)) row := by
      intro old row
      have hge := grownCap_ge w (xs.length + m) old 5
      have hcm : grownCap w (xs.length + m) old 5 ≤ maxLen := grownCap_le_maxLen w (xs.length + m) old 5 (by simp only [maxLen]; omega)
      refine ⟨⟨hlen, .inr ⟨w.heap.size, _, _, rfl, hbase, heap_alloc_new w.drew _, hge, hcm, ?_, ?_⟩⟩, ⟨rfl, rfl, rfl, by simp, fun k hk _ => heap_alloc_old w.drew _ hk⟩⟩
      · simp only [Array.size_append, List.size_toArray, size_zeroCells, List.length_map, List.length_replicate, Value.cells]
        simp
        omega
      · simp only [Array.toList_append]
        rw [← List.map_append, ← hlen]
        exact List.take_left
    have hlq : (xs ++ List.replicate m (0 : Int)).length = xs.length + m := by simp
    rcases hown.2 with ⟨rfl, hn⟩ | ⟨g, cap, cur, rfl, hb', hh, hnc, hcm, hsz, htk⟩
    · obtain rfl : xs = [] := List.eq_nil_of_length_eq_zero hn
      have hr := Go.Lib.run_append_nil_zeros (P := Tryd.prog) w 32 3 ty 5 i (.int .u8 0) .i64 .i64 Tryd.underlying32 Tryd.underlying3 hi hz m h0 (by omega) (by omega) (by rw [hb]; omega)
      have hf := fin 0 (Value.ownBlock (.slice none 0 0))
      simp only [List.length_nil, Nat.zero_add, List.nil_append, List.map_nil] at hf ⊢
      rw [zero_cells] at hr
      have e0 : (#[] : Array Value) ++ ((List.replicate m (0 : Int)).map (Value.int .u8)).toArray = ((List.replicate m (0 : Int)).map (Value.int .u8)).toArray := Array.empty_append
      rw [e0] at hf
      refine ⟨_, _, hr, ?_, hf.2⟩
      unfold Own
      rw [show (List.replicate m (0 : Int)).length = m by simp]
      exact hf.1
    · by_cases hroom : xs.length + m ≤ cap
      · have hr := run_zeros_room (P := Tryd.prog) w 32 3 ty 5 i .i64 .i64 Tryd.underlying32 Tryd.underlying3 hi hz hs hb g xs.length cap cur hh m h0 hm hroom (by omega)
        refine ⟨_, _, hr, ?_, ⟨rfl, rfl, rfl, by simp, fun k _ hk => setRow_other w g k _ (fun e => hk (by simp [Value.ownBlock, e]))⟩⟩
        unfold Own
        rw [hlq]
        have htk' : cur.toList.take xs.length = xs.map (Value.int .u8) := by rw [← htk]; simp
        refine ⟨hlen, .inr ⟨g, cap, _, rfl, hb', setRow_heap w g cur _ _ _ hh, hroom, hcm, ?_, ?_⟩⟩
        · simp only [List.size_toArray, List.length_append, List.length_take, List.length_drop, Array.length_toList, List.length_map, List.length_replicate]
          omega
        · rw [htk', ← List.map_append, ← hlen]
          exact List.take_left
      · have holds : ∀ j u, (xs.map (Value.int .u8))[j]? = some u → w.cell? ((⟨g, 0, none⟩ : Addr).add j) = some u := World.ownsRow.cells hown (g := g) rfl
        have hr := run_zeros_grow (P := Tryd.prog) w 32 3 ty 5 i .i64 .i64 Tryd.underlying32 Tryd.underlying3 hi hz hs hb ⟨g, 0, none⟩ xs.length cap _ (by simp) holds m h0 hm (by omega) (by omega)
        have hf := fin cap (Value.ownBlock (.slice (some ⟨g, 0, none⟩) xs.length cap))
        refine ⟨_, _, hr, ?_, hf.2⟩
        unfold Own
        rw [hlq]
        exact hf.1
end Go.Proofs.YtniimgbljhmcoaaDoor.opC

/-
  Regions that draw their order, in which some operations write (stores, appends), each waiting for the one before: a chain. All others only make memory, or read.
-/
namespace Go.Proofs.YtniimgbljhmcoaaDoor.freeC
open Go.ChangeShapes Go.WideShapes Go.ChangeAt Go.RowKit
set_option linter.unusedVariables false
section
variable {P : Program} {L : List Oper} {Q : Exit → Act → World → Prop}
/-- what is asked of an operation: of one that is no part of the chain C, that it makes memory alone; of the chain's p-th, that it leads from R p to R (p + 1) -/
def StepC (P : Program) (L : List Oper) (Q : Exit → Act → World → Prop) (tab : List (Option Nat)) (a : Act) (B : Nat) (C : List Nat) (G : World → Prop) (V : Nat → Value → World → Prop) (R : Nat → (Nat → Value) → World → Prop) (i : Nat) (o : Oper) : Prop :=
  ∀ (m : Nat → Bool) us w, B ≤ w.heap.size → G w → (∀ j, j ∉ C → m j = true → V j (us j) w) → doneB o m = true →
    (i ∉ C → if Region.wanted o (yielded L.toArray (frame tab a us).tmps) then o.wp P (frame tab a us) w (fun a' w' => ∃ v, a' = (frame tab a us).put o.dst v ∧ Below w.heap.size w w' ∧ V i v w') Q else V i undef w) ∧
    (∀ p, C[p]? = some i → R p us w → if Region.wanted o (yielded L.toArray (frame tab a us).tmps) then o.wp P (frame tab a us) w (fun a' w' => ∃ v, a' = (frame tab a us).put o.dst v ∧ Below B w w' ∧ R (p + 1) (upd us i v) w') Q else R (p + 1) (upd us i undef) w)
def links (L : List Oper) : List Nat → Bool
  | x :: y :: r => (match L[y]? with | some o => o.after.any fun e => Region.binds .any e && (e.on == x) | none => false) && links L (y :: r)
  | _ => true
theorem links_at {L : List Oper} : ∀ {C : List Nat}, links L C = true → ∀ p x y o, C[p]? = some x → C[p + 1]? = some y → L[y]? = some o → ∀ m, doneB o m = true → m x = true
  | [], _, p, x, y, o, h, _, _, _, _ => by simp at h
  | [z], _, p, x, y, o, _, h, _, _, _ => by simp at h
  | z :: z' :: r, hl, 0, x, y, o, h1, h2, ho, m, hd => by
    obtain rfl : z = x := by simpa using h1
    obtain rfl : z' = y := by simpa using h2
    simp only [links, Bool.and_eq_true, ho] at hl
    obtain ⟨e, he, h2⟩ := Array.any_eq_true'.1 hl.1
    simp only [Bool.and_eq_true, beq_iff_eq] at h2
    have h3 := Array.all_eq_true'.1 hd e he
    rw [h2.1, h2.2] at h3
    simpa using h3
  | z :: z' :: r, hl, p + 1, x, y, o, h1, h2, ho, m, hd => by
    simp only [links, Bool.and_eq_true] at hl
    exact links_at hl.2 p x y o (by simpa using h1) (by simpa using h2) ho m hd
theorem nodup_at {C : List Nat} (hnd : C.Nodup) {p q x : Nat} (hp : C[p]? = some x) (hq : C[q]? = some x) : p = q := by
  obtain ⟨hp1, hp2⟩ := List.getElem?_eq_some_iff.1 hp
  obtain ⟨hq1, hq2⟩ := List.getElem?_eq_some_iff.1 hq
  have h := List.pairwise_iff_getElem.1 hnd
  rcases Nat.lt_trichotomy p q with h1 | h1 | h1
  · exact absurd (hp2.trans hq2.symm) (h p q hp1 hq1 h1)
  · exact h1
  · exact absurd (hq2.trans hp2.symm) (h q p hq1 hp1 h1)
theorem wp_region_chain {id : Nat} {a : Act} {w : World} (hm : P.follows .mixedOrders = true) (tab : List (Option Nat)) (hb : backE L = true) (ht : slots tab L = true) (hl : tab.length = a.tmps.size)
    (us0 : Nat → Value) (ha : frame tab a us0 = a) (B : Nat) (C : List Nat) (hC : links L C = true) (hnd : C.Nodup) (hin : ∀ x ∈ C, x < L.length)
    (G : World → Prop) (V : Nat → Value → World → Prop) (R : Nat → (Nat → Value) → World → Prop) (hB : B ≤ w.heap.size) (hG : G w.drew) (h0 : R 0 us0 w.drew)
    (hkG : ∀ w w', B ≤ w.heap.size → Below B w w' → G w → G w') (hkV : ∀ i v w w', B ≤ w.heap.size → Below B w w' → V i v w → V i v w')
    (hkR : ∀ k us us' w w', (∀ x ∈ C, us' x = us x) → B ≤ w.heap.size → Below w.heap.size w w' → R k us w → R k us' w')
    (hstep : AllFrom (StepC P L Q tab a B C G V R) 0 L)
    (hend : ∀ us w, B ≤ w.heap.size → G w → (∀ i, i < L.length → i ∉ C → V i (us i) w) → R C.length us w → Q .normal (frame tab a us) w) : (Code.region id L.toArray true).wp P Q a w := by
  refine wp_region_free hm tab hb ht hl us0 ha (fun m us w => B ≤ w.heap.size ∧ G w ∧ (∀ j, j ∉ C → m j = true → V j (us j) w) ∧ ∃ k, k ≤ C.length ∧ (∀ j x, C[j]? = some x → (m x = true ↔ j < k)) ∧ R k us w)
    ⟨(by simpa using hB), hG, (fun j _ h => by cases h), 0, Nat.zero_le _, (fun j x _ => by simp), h0⟩ ?_ ?_
  · intro i o ho m us w' ⟨hb', hg, hv, k, hk, hcm, hr⟩ hmi hd
    have hs := all_from L 0 hstep i o ho m us w' hb' hg hv hd
    rw [Nat.zero_add] at hs
    by_cases hi : i ∈ C
    · obtain ⟨p, hp⟩ := List.getElem?_of_mem hi
      have hkp : k = p := by
        have h1 : ¬ p < k := fun h => by rw [(hcm p i hp).2 h] at hmi; cases hmi
        rcases Nat.eq_zero_or_pos p with h2 | h2
        · omega
        · obtain ⟨q, rfl⟩ : ∃ q, p = q + 1 := ⟨p - 1, by omega⟩
          have hq : q < C.length := by have := (List.getElem?_eq_some_iff.1 hp).1; omega
          have e := List.getElem?_eq_getElem hq
          have := (hcm q _ e).1 (links_at hC q _ i o e hp ho m hd)
          omega
      subst hkp
      have hs2 := hs.2 k hp hr
      have hset : ∀ v w'', Below B w' w'' → R (k + 1) (upd us i v) w'' → B ≤ w''.heap.size ∧ G w'' ∧ (∀ j, j ∉ C → upd m i true j = true → V j (upd us i v j) w'') ∧ ∃ k, k ≤ C.length ∧ (∀ j x, C[j]? = some x → (upd m i true x = true ↔ j < k)) ∧ R k (upd us i v) w'' := fun v w'' hb2 hr2 => by
        refine ⟨Nat.le_trans hb' hb2.size, hkG _ _ hb' hb2 hg, fun j hj hm' => ?_, k + 1, ?_, fun j x hx => ?_, hr2⟩
        · have hji : j ≠ i := fun e => hj (e ▸ hi)
          rw [upd_other _ _ hji] at hm' ⊢
          exact hkV _ _ _ _ hb' hb2 (hv j hj hm')
        · have := (List.getElem?_eq_some_iff.1 hp).1; omega
        · by_cases hx2 : x = i
          · subst hx2
            have hjk : j = k := nodup_at hnd hx hp
            rw [upd_same]; simp [hjk]
          · rw [upd_other _ _ hx2, hcm j x hx]
            have hjk : j ≠ k := fun e => by rw [e, hp] at hx; exact hx2 (Option.some.inj hx).symm
            omega
      split
      · rename_i hw
        rw [if_pos hw] at hs2
        refine Oper.wp_mono (fun a2 w2 h2 => ?_) hs2
        obtain ⟨v, ha, hb2, hr2⟩ := h2
        exact ⟨v, ha, hset v w2 hb2 hr2⟩
      · rename_i hw
        rw [if_neg hw] at hs2
        exact hset undef w' (Below.refl _ _) hs2
    · have hs1 := hs.1 hi
      have hset : ∀ v w'', Below w'.heap.size w' w'' → V i v w'' → B ≤ w''.heap.size ∧ G w'' ∧ (∀ j, j ∉ C → upd m i true j = true → V j (upd us i v j) w'') ∧ ∃ k, k ≤ C.length ∧ (∀ j x, C[j]? = some x → (upd m i true x = true ↔ j < k)) ∧ R k (upd us i v) w'' := fun v w'' hb2 hv2 => by
        have hb3 := hb2.mono hb'
        refine ⟨Nat.le_trans hb' hb2.size, hkG _ _ hb' hb3 hg, fun j hj hm' => ?_, k, hk, fun j x hx => ?_, hkR k us (upd us i v) w' w'' (fun x hx => ?_) hb' hb2 hr⟩
        · by_cases hji : j = i
          · subst hji; rw [upd_same]; exact hv2
          · rw [upd_other _ _ hji] at hm' ⊢
            exact hkV _ _ _ _ hb' hb3 (hv j hj hm')
        · have hxi : x ≠ i := fun e => hi (e ▸ List.mem_of_getElem? hx)
          rw [upd_other _ _ hxi]; exact hcm j x hx
        · have hxi : x ≠ i := fun e => hi (e ▸ hx)
          rw [upd_other _ _ hxi]
      split
      · rename_i hw
        rw [if_pos hw] at hs1
        refine Oper.wp_mono (fun a2 w2 h2 => ?_) hs1
        obtain ⟨v, ha, hb2, hv2⟩ := h2
        exact ⟨v, ha, hset v w2 hb2 hv2⟩
      · rename_i hw
        rw [if_neg hw] at hs1
        exact hset undef w' (Below.refl _ _) hs1
  · intro m us w' hm' ⟨hb', hg, hv, k, hk, hcm, hr⟩
    have hkl : k = C.length := by
      rcases Nat.lt_or_ge k C.length with h | h
      · have e := List.getElem?_eq_getElem h
        have := (hcm k _ e).1 (hm' _ (hin _ (List.getElem_mem h)))
        omega
      · omega
    subst hkl
    exact hend us w' hb' hg (fun i hi hc => hv i hc (hm' i hi)) hr
variable {o : Oper} {a : Act} {tab : List (Option Nat)} {B : Nat} {C : List Nat} {G : World → Prop} {V : Nat → Value → World → Prop} {R : Nat → (Nat → Value) → World → Prop} {i : Nat}
/-- an operation that only makes memory -/
theorem stepC_val (need : List Nat) (hn : needs o need = true) (hc : (need.all fun j => !C.contains j) = true) (hi : C.contains i = false) (hg : o.guard = none)
    (h : ∀ us w, B ≤ w.heap.size → G w → (∀ j, j ∈ need → V j (us j) w) → o.wp P (frame tab a us) w (fun a' w' => ∃ v, a' = (frame tab a us).put o.dst v ∧ Below w.heap.size w w' ∧ V i v w') Q) : StepC P L Q tab a B C G V R i o := by
  intro m us w hB hG hV hd
  have hiC : i ∉ C := fun e => by rw [List.contains_iff_mem.2 e] at hi; cases hi
  refine ⟨fun _ => ?_, fun p hp => absurd (List.mem_of_getElem? hp) hiC⟩
  rw [if_pos (show Region.wanted o (yielded L.toArray (frame tab a us).tmps) = true by simp [Region.wanted, hg])]
  exact h us w hB hG fun j hj => hV j (fun e => by have h1 := List.all_eq_true.1 hc j hj; rw [List.contains_iff_mem.2 e] at h1; cases h1) (need_ok hn hd j hj)
/-- .. behind a guard that says b, as is known -/
theorem stepC_guard (need : List Nat) (hn : needs o need = true) (hc : (need.all fun j => !C.contains j) = true) (hi : C.contains i = false) {j t : Nat} {b : Bool} (hg : o.guard = some (j, b)) (hj : j ∈ need) (hL : (L[j]?).bind (·.dst) = some t) (hl : tab.length = a.tmps.size) (ht : (tab[t]?).join = some j)
    (hv : ∀ v w, V j v w → v = .bool b)
    (h : ∀ us w, B ≤ w.heap.size → G w → (∀ j, j ∈ need → V j (us j) w) → o.wp P (frame tab a us) w (fun a' w' => ∃ v, a' = (frame tab a us).put o.dst v ∧ Below w.heap.size w w' ∧ V i v w') Q) : StepC P L Q tab a B C G V R i o := by
  intro m us w hB hG hV hd
  have hiC : i ∉ C := fun e => by rw [List.contains_iff_mem.2 e] at hi; cases hi
  have hV2 : ∀ j, j ∈ need → V j (us j) w := fun j hj => hV j (fun e => by have h1 := List.all_eq_true.1 hc j hj; rw [List.contains_iff_mem.2 e] at h1; cases h1) (need_ok hn hd j hj)
  refine ⟨fun _ => ?_, fun p hp => absurd (List.mem_of_getElem? hp) hiC⟩
  have hy := yield_at (L := L) (us := us) hl hL ht (hv _ _ (hV2 j hj))
  rw [if_pos (show Region.wanted o (yielded L.toArray (frame tab a us).tmps) = true by simp [Region.wanted, hg, hy])]
  exact h us w hB hG hV2
/-- .. that is not wanted -/
theorem stepC_skip (need : List Nat) (hn : needs o need = true) (hc : (need.all fun j => !C.contains j) = true) (hi : C.contains i = false) {j t : Nat} {b : Bool} (hg : o.guard = some (j, b)) (hj : j ∈ need) (hL : (L[j]?).bind (·.dst) = some t) (hl : tab.length = a.tmps.size) (ht : (tab[t]?).join = some j)
    (hv : ∀ v w, V j v w → v = .bool !b) (h : ∀ w, V i undef w) : StepC P L Q tab a B C G V R i o := by
  intro m us w hB hG hV hd
  have hiC : i ∉ C := fun e => by rw [List.contains_iff_mem.2 e] at hi; cases hi
  have hV2 : ∀ j, j ∈ need → V j (us j) w := fun j hj => hV j (fun e => by have h1 := List.all_eq_true.1 hc j hj; rw [List.contains_iff_mem.2 e] at h1; cases h1) (need_ok hn hd j hj)
  refine ⟨fun _ => ?_, fun p hp => absurd (List.mem_of_getElem? hp) hiC⟩
  have hy := yield_at (L := L) (us := us) hl hL ht (hv _ _ (hV2 j hj))
  rw [if_neg (by simp [Region.wanted, hg, hy])]
  exact h w
/-- the chain's p-th -/
theorem stepC_chain (p : Nat) (hp : C[p]? = some i) (hnd : C.Nodup) (need : List Nat) (hn : needs o need = true) (hc : (need.all fun j => !C.contains j) = true) (hg : o.guard = none)
    (h : ∀ us w, B ≤ w.heap.size → G w → (∀ j, j ∈ need → V j (us j) w) → R p us w → o.wp P (frame tab a us) w (fun a' w' => ∃ v, a' = (frame tab a us).put o.dst v ∧ Below B w w' ∧ R (p + 1) (upd us i v) w') Q) : StepC P L Q tab a B C G V R i o := by
  intro m us w hB hG hV hd
  refine ⟨fun hi => absurd (List.mem_of_getElem? hp) hi, fun q hq hr => ?_⟩
  have hqp : q = p := nodup_at hnd hq hp
  subst hqp
  rw [if_pos (show Region.wanted o (yielded L.toArray (frame tab a us).tmps) = true by simp [Region.wanted, hg])]
  exact h us w hB hG (fun j hj => hV j (fun e => by have h1 := List.all_eq_true.1 hc j hj; rw [List.contains_iff_mem.2 e] at h1; cases h1) (need_ok hn hd j hj)) hr
/-- .. behind a guard that says b, as is known -/
theorem stepC_chainG (p : Nat) (hp : C[p]? = some i) (hnd : C.Nodup) (need : List Nat) (hn : needs o need = true) (hc : (need.all fun j => !C.contains j) = true) {j t : Nat} {b : Bool} (hg : o.guard = some (j, b)) (hj : j ∈ need) (hL : (L[j]?).bind (·.dst) = some t) (hl : tab.length = a.tmps.size) (ht : (tab[t]?).join = some j)
    (hv : ∀ v w, V j v w → v = .bool b)
    (h : ∀ us w, B ≤ w.heap.size → G w → (∀ j, j ∈ need → V j (us j) w) → R p us w → o.wp P (frame tab a us) w (fun a' w' => ∃ v, a' = (frame tab a us).put o.dst v ∧ Below B w w' ∧ R (p + 1) (upd us i v) w') Q) : StepC P L Q tab a B C G V R i o := by
  intro m us w hB hG hV hd
  have hV2 : ∀ j, j ∈ need → V j (us j) w := fun j hj => hV j (fun e => by have h1 := List.all_eq_true.1 hc j hj; rw [List.contains_iff_mem.2 e] at h1; cases h1) (need_ok hn hd j hj)
  refine ⟨fun hi => absurd (List.mem_of_getElem? hp) hi, fun q hq hr => ?_⟩
  have hqp : q = p := nodup_at hnd hq hp
  subst hqp
  have hy := yield_at (L := L) (us := us) hl hL ht (hv _ _ (hV2 j hj))
  rw [if_pos (show Region.wanted o (yielded L.toArray (frame tab a us).tmps) = true by simp [Region.wanted, hg, hy])]
  exact h us w hB hG hV2 hr
variable {w w' : World} {K : Act → World → Prop}
/-- an operation that answers a value at once, in such a region -/
theorem val_C {fr : Act} {v : Value} (hr : (execOp fr.eval o).run P w = .ok (.value v) w') (hb : Below w.heap.size w w') (hV : V i v w') :
    o.wp P fr w (fun a' w' => ∃ v, a' = fr.put o.dst v ∧ Below w.heap.size w w' ∧ V i v w') Q := free_val hr ⟨v, rfl, hb, hV⟩
theorem load_C {fr : Act} (ty : TypeId) (s : Tmp) (ho : o.op = .load ty (.tmp s)) (g : Nat) (hx : fr.tmps[s]?.getD undef = .pointer (some ⟨g, 0, none⟩)) (t : TypeId) (cs : Array Value) (f : Nat × Nat) (d : TypeDesc) (hg : w.heap[g]? = some (.cells cs t f))
    (hu : P.underlying ty = some d) (hd : (match d with | .struct _ | .array _ _ => true | _ => false) = true) (hi : (P.info? ty).map (·.size) = some cs.size) (hV : V i (.agg cs) w) :
    o.wp P fr w (fun a' w' => ∃ v, a' = fr.put o.dst v ∧ Below w.heap.size w w' ∧ V i v w') Q :=
  wp_load_row ty (.tmp s) ho g (by simpa only [Act.eval, Array.getD_eq_getD_getElem?] using hx) t cs f d hg hu hd hi ⟨_, rfl, Below.refl _ _, hV⟩
theorem call_C {fr : Act} {f : FuncId} {args : Array Value} (hr : (execOp fr.eval o).run P w = .ok (.enter f args) w) (h : Calls P f args w fun e w' => ∃ v, e = .returned v ∧ Below w.heap.size w w' ∧ V i v w') :
    o.wp P fr w (fun a' w' => ∃ v, a' = fr.put o.dst v ∧ Below w.heap.size w w' ∧ V i v w') Q := free_call hr (h.mono fun e w' ⟨v, he, h2, h3⟩ => ⟨v, he, v, rfl, h2, h3⟩)
end
end Go.Proofs.YtniimgbljhmcoaaDoor.freeC

/-
  The sum of 16-bit numbers, and what passes 16 bits added below: plain mathematics.
-/
namespace Go.Proofs.YtniimgbljhmcoaaDoor.chkM
open Go.Proofs.YtniimgbljhmcoaaDoor.memC
set_option linter.unusedVariables false
def Byte (x : Int) : Prop := 0 ≤ x ∧ x ≤ 255
/-- the numbers of 16 bits, added -/
def wsum : List Int → Int
  | [] => 0
  | [a] => a * 256
  | a :: b :: r => a * 256 + b + wsum r
/-- what passes 16 bits is added again below -/
def fo (s : Int) : Int := if s ≤ 0 then 0 else (s - 1) % 65535 + 1
theorem fo_bd (s : Int) : 0 ≤ fo s ∧ fo s ≤ 65535 := by unfold fo; split <;> omega
theorem fo_id {s : Int} (h0 : 0 ≤ s) (h1 : s ≤ 65535) : fo s = s := by unfold fo; split <;> omega
theorem fo_add {a b : Int} (ha : 0 ≤ a) (hb : 0 ≤ b) : fo (fo a + b) = fo (a + b) := by unfold fo; (repeat' split) <;> omega
theorem fo_add' {a b : Int} (ha : 0 ≤ a) (hb : 0 ≤ b) : fo (a + fo b) = fo (a + b) := by rw [Int.add_comm, fo_add hb ha, Int.add_comm]
theorem fo_step {s : Int} (h : 65535 < s) : fo (s / 65536 + s % 65536) = fo s := by unfold fo; (repeat' split) <;> omega
theorem wsum_bd : ∀ (l : List Int), (∀ x ∈ l, Byte x) → 0 ≤ wsum l ∧ wsum l ≤ 65535 * l.length
  | [], _ => by simp [wsum]
  | [a], h => by have := h a (by simp); unfold Byte at this; simp [wsum]; omega
  | a :: b :: r, h => by
    have h1 := h a (by simp)
    have h2 := h b (by simp)
    have ih := wsum_bd r fun x hx => h x (by simp [hx])
    unfold Byte at h1 h2
    simp only [wsum, List.length_cons]
    omega
theorem wsum_append : ∀ (a b : List Int), a.length % 2 = 0 → wsum (a ++ b) = wsum a + wsum b
  | [], b, _ => by simp [wsum]
  | [x], b, h => by simp at h
  | x :: y :: r, b, h => by
    have ih := wsum_append r b (by simp at h; omega)
    simp only [List.cons_append, wsum]
    omega
theorem wsum_two (l : List Int) (k : Nat) (hk : k % 2 = 0) (h : k + 1 < l.length) : wsum (l.take (k + 2)) = wsum (l.take k) + (l.getD k 0 * 256 + l.getD (k + 1) 0) := by
  have e : l.take (k + 2) = l.take k ++ [l.getD k 0, l.getD (k + 1) 0] := by
    rw [List.take_succ_eq_append_getElem h, List.take_succ_eq_append_getElem (show k < l.length by omega)]
    simp only [List.getD_eq_getElem?_getD, List.getElem?_eq_getElem h, List.getElem?_eq_getElem (show k < l.length by omega), Option.getD_some, List.append_assoc, List.cons_append, List.nil_append]
  rw [e, wsum_append _ _ (by rw [List.length_take]; omega)]
  simp [wsum]
theorem wsum_last (l : List Int) (k : Nat) (hk : k % 2 = 0) (h : k + 1 = l.length) : wsum l = wsum (l.take k) + l.getD k 0 * 256 := by
  have e : l = l.take k ++ [l.getD k 0] := by
    have h2 := List.take_succ_eq_append_getElem (l := l) (i := k) (by omega)
    rw [List.take_of_length_le (by omega)] at h2
    simpa [List.getD_eq_getElem?_getD, List.getElem?_eq_getElem (show k < l.length by omega)] using h2
  have e2 := congrArg wsum e
  rw [wsum_append _ _ (by rw [List.length_take]; omega)] at e2
  simpa [wsum] using e2
/-- all parts' numbers, added -/
def psum : List (List Int) → Int
  | [] => 0
  | p :: r => wsum p + psum r
theorem psum_bd : ∀ (ps : List (List Int)), (∀ p ∈ ps, ∀ x ∈ p, Byte x) → 0 ≤ psum ps
  | [], _ => by simp [psum]
  | p :: r, h => by
    have h1 := (wsum_bd p (h p (by simp))).1
    have ih := psum_bd r fun q hq => h q (by simp [hq])
    simp only [psum]; omega
theorem psum_append : ∀ (a b : List (List Int)), psum (a ++ b) = psum a + psum b
  | [], b => by simp [psum]
  | p :: r, b => by simp only [List.cons_append, psum, psum_append r b]; omega
end Go.Proofs.YtniimgbljhmcoaaDoor.chkM

/-
  What fold, add, the two Turns, total and long do.
-/
namespace Go.Proofs.YtniimgbljhmcoaaDoor.chkC
open Go.ChangeShapes Go.WideShapes Go.ChangeAt Go.RowKit
open Go.Proofs.YtniimgbljhmcoaaDoor.memC Go.Proofs.YtniimgbljhmcoaaDoor.chkM
set_option linter.unusedVariables false
theorem ret_int {k : IntKind} {a b : Int} (h : a = b) : Ending.returned (.int k a) = .returned (.int k b) := by rw [h]
theorem ret_bool {a b : Bool} (h : a = b) : Ending.returned (.bool a) = .returned (.bool b) := by rw [h]
theorem val_int {k : IntKind} {a b : Int} (h : a = b) : Value.int k a = .int k b := by rw [h]
theorem and_full {x : Int} (h0 : 0 ≤ x) (h1 : x ≤ 18446744073709551615) : bits .and .u64 x 65535 = x % 65536 := by
  rw [Go.u64_and x 65535 h0 (by omega) (by omega) (by omega)]
  have e : (65535 : Int).toNat = 2 ^ 16 - 1 := by decide
  rw [e, Nat.and_two_pow_sub_one_eq_mod]
  omega
theorem xor_full {n : Nat} (h : n < 65536) : 65535 ^^^ n = 65535 - n := by
  have h1 := congrArg BitVec.toNat (BitVec.allOnes_xor (x := BitVec.ofNat 16 n))
  rw [BitVec.toNat_not, BitVec.toNat_xor, BitVec.toNat_allOnes, BitVec.toNat_ofNat, Nat.mod_eq_of_lt (show n < 2 ^ 16 by omega)] at h1
  simpa using h1
theorem not16 {c : Int} (h0 : 0 ≤ c) (h1 : c ≤ 65535) : bits .xor .u16 IntKind.u16.max c = 65535 - c := by
  have e : IntKind.u16.max = (65535 : Int) := rfl
  rw [e, Go.u16_xor 65535 c (by omega) (by omega) h0 (by omega)]
  have := xor_full (n := c.toNat) (by omega)
  have e2 : (65535 : Int).toNat = 65535 := rfl
  rw [e2, this]; omega
def FoR (s : Int) (t : Value) : Prop := ∃ x : Int, 0 ≤ x ∧ x ≤ 9223372036854775807 ∧ fo x = fo s ∧ t = .int .u64 x
theorem fold_any (s : Int) (w : World) (h0 : 0 ≤ s) (h1 : s ≤ 9223372036854775807) :
    Calls Tryd.prog 95 #[.int .u64 s] w fun e w' => e = .returned (.int .u16 (fo s)) ∧ w = w' := by
  go_enter Tryd.func95, Tryd.ntmps95
  go_wp2
  go_loop [0] (fun t => FoR s t) (fun t => (intOf t).toNat)
  case atStart => exact ⟨s, h0, h1, rfl, rfl⟩
  case round =>
    obtain ⟨x, hx0, hx1, hx, rfl⟩ := hrel
    have HX := Lib.hid hx
    clear hx
    by_cases hlt : 65535 < x
    · have ha := and_full (x := x) hx0 (by omega)
      go_wp2
      go_round
      case rel => exact ⟨x / 65536 + x % 65536, by omega, by omega, (fo_step hlt).trans HX.out, val_int (by omega)⟩
      case measure => simp [intOf]; omega
    · go_wp2
      go_ret
      exact ⟨ret_int (by rw [← HX.out, fo_id hx0 (by omega)]), rfl⟩
theorem add_any (a b : Int) (w : World) (a0 : 0 ≤ a) (a1 : a ≤ 65535) (b0 : 0 ≤ b) (b1 : b ≤ 65535) :
    Calls Tryd.prog 82 #[.int .u16 a, .int .u16 b] w fun e w' => e = .returned (.int .u16 (fo (a + b))) ∧ w = w' := by
  by_cases hlt : 65535 < a + b
  · have HF := Lib.hid (show fo (a + b) = a + b - 65535 by unfold fo; split <;> omega)
    go_enter Tryd.func82, Tryd.ntmps82
    go_wp2
    go_ret
    exact ⟨ret_int (by rw [HF.out]; omega), rfl⟩
  · have HF := Lib.hid (show fo (a + b) = a + b from fo_id (by omega) (by omega))
    go_enter Tryd.func82, Tryd.ntmps82
    go_wp2
    go_ret
    exact ⟨ret_int (by rw [HF.out]), rfl⟩
theorem or_bytes {a b : Int} (a0 : 0 ≤ a) (a1 : a ≤ 255) (b0 : 0 ≤ b) (b1 : b ≤ 255) : bits .or .u64 (a * 256) b = a * 256 + b := by
  rw [Go.u64_or _ _ (by omega) (by omega) (by omega) (by omega)]
  have e : (a * 256).toNat = a.toNat <<< 8 := by rw [Nat.shiftLeft_eq]; omega
  rw [e, ← Nat.shiftLeft_add_eq_or_of_lt (by omega), Nat.shiftLeft_eq]; omega
theorem getD_byte {bs : List Int} (hy : ∀ x ∈ bs, Byte x) {k : Nat} (hk : k < bs.length) : Byte (bs.getD k 0) := by
  rw [List.getD_eq_getElem?_getD, List.getElem?_eq_getElem hk]; exact hy _ (List.getElem_mem _)
theorem take_byte {bs : List Int} (hy : ∀ x ∈ bs, Byte x) (k : Nat) : ∀ x ∈ bs.take k, Byte x := fun x hx => hy x (List.mem_of_mem_take hx)
def TotR (bs : List Int) (k : Nat) (t : Value) : Prop := ∃ s : Int, s = wsum (bs.take k) ∧ t = .int .u64 s
set_option maxHeartbeats 1000000 in
theorem total_any (A : Option Addr) (n c : Nat) (bs : List Int) (w : World) (hb : Nums .u8 w w.heap.size A n bs) (hn : n ≤ 10000) (hy : ∀ x ∈ bs, Byte x) :
    Calls Tryd.prog 96 #[.slice A n c] w fun e w' => e = .returned (.int .u64 (wsum bs)) ∧ ∃ j, w' = w.drewN j := by
  have hl := hb.len
  obtain ⟨m, hm⟩ : ∃ m, m = n - n % 2 := ⟨_, rfl⟩
  have hmz : (n : Int) - (n : Int) % 2 = (m : Int) := by omega
  have hm2 : m % 2 = 0 := by omega
  have hmn : m ≤ n := by omega
  have HB := Lib.hid hb
  have HM := Lib.hid hm
  have HM2 := Lib.hid hm2
  have HL := Lib.hid hl
  clear hb hm hm2 hl
  go_enter Tryd.func96, Tryd.ntmps96
  go_wp2_with fail
  go_loopw [3, 5] (fun t i wr => ∃ k : Nat, k ≤ m ∧ Hid (k % 2 = 0) ∧ i = .int .i64 k ∧ TotR bs k t ∧ ∃ j, wr = w.drewN j) (fun _ i _ => m - (intOf i).toNat)
  case atStart => exact ⟨0, Nat.zero_le _, Lib.hid rfl, rfl, ⟨0, by simp [wsum], rfl⟩, 0, rfl⟩
  case round =>
    obtain ⟨k, hk, hk2, rfl, ⟨s, hs, rfl⟩, j, hw⟩ := hrel
    have HS := Lib.hid hs
    have HW := Lib.hid hw
    have hsb := wsum_bd (bs.take k) (take_byte hy k)
    rw [← hs, List.length_take, HL.out] at hsb
    obtain ⟨s0, s1⟩ := hsb
    have s2 : s ≤ 655350000 := by omega
    clear s1 hs hw
    by_cases hlt : k < m
    · have hk1 : k + 1 < n := by have := hk2.out; have := HM2.out; omega
      obtain ⟨b, o, rfl, hbb, hcell⟩ := HB.out.cell (i := k) (by omega)
      have hcell2 : w.cell? ⟨b, o + (k + 1), none⟩ = some (.int .u8 (bs.getD (k + 1) 0)) := by
        obtain ⟨b', o', e, _, h⟩ := HB.out.cell (i := k + 1) hk1
        cases e; exact h
      have b1 := getD_byte hy (k := k) (by rw [HL.out]; omega)
      have b2 := getD_byte hy (k := k + 1) (by rw [HL.out]; omega)
      have hts := wsum_two bs k hk2.out (by rw [HL.out]; omega)
      rw [← HS.out] at hts
      have HT := Lib.hid hts
      clear hts
      generalize bs.getD k 0 = x at *
      generalize bs.getD (k + 1) 0 = y at *
      obtain ⟨x0, x1⟩ := b1
      obtain ⟨y0, y1⟩ := b2
      have ob := or_bytes x0 x1 y0 y1
      have cc : wr.cell? ⟨b, o + k, none⟩ = some (.int .u8 x) := by rw [HW.out]; exact hcell
      have cc2 : wr.cell? ⟨b, o + (k + 1), none⟩ = some (.int .u8 y) := by rw [HW.out]; exact hcell2
      clear hcell hcell2
      have i1 : IntKind.i64.wrap ((k : Int) + 1) = (k : Int) + 1 := IntWalk.i64_in _ (by omega)
      have i2 : (0 : Int) ≤ (k : Int) + 1 := by omega
      have i3 : ((k : Int) + 1).toNat = k + 1 := by omega
      have i4 : IntKind.u64.wrap (s + (x * 256 + y)) = s + (x * 256 + y) := IntWalk.u64_in _ (by omega)
      have i5 : IntKind.u64.wrap x = x := IntWalk.u64_in _ (by omega)
      have i6 : IntKind.u64.wrap y = y := IntWalk.u64_in _ (by omega)
      have i7 : IntKind.u64.wrap (x * 256) = x * 256 := IntWalk.u64_in _ (by omega)
      go_wp2_with fail
      go_quiet (fail)
      clear i1 i2 i3 i4 i5 i6 i7
      go_wp2_with fail
      go_roundw
      case rel =>
        refine ⟨k + 2, by have := hk2.out; have := HM2.out; omega, Lib.hid (by have := hk2.out; omega), by go_num, ⟨_, HT.out.symm, ?_⟩, ?_⟩
        · rfl
        · rw [HW.out]; exact ⟨_, World.drewN_drewN _ _ _⟩
      case measure => simp [intOf]; omega
    · have e : k = m := by omega
      subst e
      by_cases hod : k < n
      · obtain ⟨b, o, rfl, hbb, hcell⟩ := HB.out.cell hod
        have b1 := getD_byte hy (k := k) (by rw [HL.out]; omega)
        have hts := wsum_last bs k hk2.out (by have := HM.out; rw [HL.out]; omega)
        rw [← HS.out] at hts
        have HT := Lib.hid hts
        clear hts
        generalize bs.getD k 0 = x at *
        obtain ⟨x0, x1⟩ := b1
        have cc : wr.cell? ⟨b, o + k, none⟩ = some (.int .u8 x) := by rw [HW.out]; exact hcell
        clear hcell
        go_wp2_with fail
        go_ret
        exact ⟨ret_int HT.out.symm, j, HW.out⟩
      · have hts : s = wsum bs := by rw [HS.out, List.take_of_length_le (by rw [HL.out]; omega)]
        have HT := Lib.hid hts
        clear hts
        go_wp2_with fail
        go_ret
        exact ⟨ret_int HT.out, j, HW.out⟩
end Go.Proofs.YtniimgbljhmcoaaDoor.chkC

/-
  What the two Sums and Check do, of any parts.
-/
namespace Go.Proofs.YtniimgbljhmcoaaDoor.chkC
open Go.ChangeShapes Go.WideShapes Go.ChangeAt Go.RowKit
open Go.Proofs.YtniimgbljhmcoaaDoor.memC Go.Proofs.YtniimgbljhmcoaaDoor.chkM
set_option linter.unusedVariables false
/-- a part: a slice, and what it holds -/
structure Part where
  A : Option Addr
  n : Nat
  c : Nat
  bs : List Int
/-- a part that lies in memory below B -/
structure PartAt (w : World) (B : Nat) (p : Part) : Prop where
  nums : Nums .u8 w B p.A p.n p.bs
  few : p.n ≤ 10000
  byte : ∀ x ∈ p.bs, Byte x
theorem PartAt.heap {w w' : World} {B : Nat} {p : Part} (h : PartAt w B p) (e : w'.heap = w.heap) : PartAt w' B p := ⟨h.nums.heap e, h.few, h.byte⟩
theorem PartAt.below {w w' : World} {B B' : Nat} {p : Part} (h : PartAt w B p) (hb : Below B w w') (hB : B ≤ B') : PartAt w' B' p := ⟨(h.nums.below hb).more hB, h.few, h.byte⟩
/-- parts that lie in a row -/
structure Parts (w : World) (B : Nat) (P : Option Addr) (ps : List Part) : Prop where
  at_ : 0 < ps.length → ∃ b o, P = some ⟨b, o, none⟩ ∧ b < B ∧ ∀ i (h : i < ps.length), w.cell? ⟨b, o + i, none⟩ = some (.slice ps[i].A ps[i].n ps[i].c)
  all : ∀ p ∈ ps, PartAt w B p
theorem Parts.cell {w : World} {B : Nat} {P : Option Addr} {ps : List Part} (h : Parts w B P ps) {i : Nat} (hi : i < ps.length) :
    ∃ b o, P = some ⟨b, o, none⟩ ∧ b < B ∧ w.cell? ⟨b, o + i, none⟩ = some (.slice ps[i].A ps[i].n ps[i].c) ∧ PartAt w B ps[i] := by
  obtain ⟨b, o, e, hb, hc⟩ := h.at_ (by omega)
  exact ⟨b, o, e, hb, hc i hi, h.all _ (List.getElem_mem _)⟩
def numsOf (ps : List Part) : List (List Int) := ps.map Part.bs
/-- parts' sums, each by itself, added -/
def fsum : List (List Int) → Int
  | [] => 0
  | p :: r => fo (wsum p) + fsum r
theorem fsum_append : ∀ (a b : List (List Int)), fsum (a ++ b) = fsum a + fsum b
  | [], b => by simp [fsum]
  | p :: r, b => by simp only [List.cons_append, fsum, fsum_append r b]; omega
theorem fsum_bd : ∀ (a : List (List Int)), 0 ≤ fsum a ∧ fsum a ≤ 65535 * a.length
  | [] => by simp [fsum]
  | p :: r => by have h1 := fo_bd (wsum p); have h2 := fsum_bd r; simp only [fsum, List.length_cons]; omega
theorem fsum_snoc (ps : List Part) (k : Nat) (h : k < ps.length) : fsum (numsOf (ps.take (k + 1))) = fsum (numsOf (ps.take k)) + fo (wsum ps[k].bs) := by
  rw [List.take_succ_eq_append_getElem h, numsOf, List.map_append, fsum_append]
  simp [fsum, numsOf]
theorem psum_snoc' (ps : List Part) (k : Nat) (h : k < ps.length) : psum (numsOf (ps.take (k + 1))) = psum (numsOf (ps.take k)) + wsum ps[k].bs := by
  rw [List.take_succ_eq_append_getElem h, numsOf, List.map_append, psum_append]
  simp [psum, numsOf]
theorem fo_fsum : ∀ (a : List (List Int)), (∀ p ∈ a, ∀ x ∈ p, Byte x) → fo (fsum a) = fo (psum a)
  | [], _ => rfl
  | p :: r, h => by
    have h1 := (wsum_bd p (h p (by simp))).1
    have h2 := fo_fsum r fun q hq => h q (by simp [hq])
    have h3 := (fsum_bd r).1
    have h4 := psum_bd r fun q hq => h q (by simp [hq])
    simp only [fsum, psum]
    rw [fo_add h1 h3, ← fo_add' h1 h3, h2, fo_add' h1 h4]
theorem parts_byte {w : World} {B : Nat} {P : Option Addr} {ps : List Part} (h : Parts w B P ps) : ∀ p ∈ numsOf ps, ∀ x ∈ p, Byte x := by
  intro p hp x hx
  obtain ⟨q, hq, rfl⟩ := List.mem_map.1 hp
  exact (h.all q hq).byte x hx
def SumR (ps : List Part) (k : Nat) (t : Value) : Prop := ∃ s : Int, s = fsum (numsOf (ps.take k)) ∧ t = .int .u64 s
set_option maxHeartbeats 1000000 in
theorem sum_any (P : Option Addr) (m c : Nat) (ps : List Part) (w : World) (hp : Parts w w.heap.size P ps) (hm : m ≤ 100) (hl : ps.length = m) :
    Calls Tryd.prog 81 #[.slice P m c] w fun e w' => e = .returned (.int .u16 (fo (psum (numsOf ps)))) ∧ ∃ j, w' = w.drewN j := by
  have HP := Lib.hid hp
  have HL := Lib.hid hl
  clear hp hl
  go_enter Tryd.func81, Tryd.ntmps81
  go_wp2_with fail
  go_loopw [3, 8] (fun t i wr => ∃ k : Nat, k ≤ m ∧ i = .int .i64 k ∧ SumR ps k t ∧ ∃ j, wr = w.drewN j) (fun _ i _ => m - (intOf i).toNat)
  case atStart => exact ⟨0, Nat.zero_le _, rfl, ⟨0, by simp [fsum, numsOf], rfl⟩, 0, rfl⟩
  case round =>
    obtain ⟨k, hk, rfl, ⟨s, hs, rfl⟩, j, hw⟩ := hrel
    have HW := Lib.hid hw
    have hsb := fsum_bd (numsOf (ps.take k))
    rw [← hs, numsOf, List.length_map, List.length_take, HL.out] at hsb
    have HS := Lib.hid hs
    obtain ⟨s0, s1⟩ := hsb
    have s2 : s ≤ 655350000 := by omega
    clear s1 hs hw
    by_cases hlt : k < m
    · obtain ⟨b, o, rfl, hbb, hcell, hpart⟩ := HP.out.cell (i := k) (by rw [HL.out]; exact hlt)
      have hts := fsum_snoc ps k (by rw [HL.out]; exact hlt)
      rw [← HS.out] at hts
      have HT := Lib.hid hts
      clear hts
      have hkl : k < ps.length := by rw [HL.out]; exact hlt
      generalize ps[k] = p at *
      obtain ⟨A, n, c', bs⟩ := p
      obtain ⟨hN, hn, hy⟩ := hpart
      simp only at hcell hN hn hy HT
      have cc : wr.cell? ⟨b, o + k, none⟩ = some (.slice A n c') := by rw [HW.out]; exact hcell
      have hN2 : Nums .u8 wr wr.heap.size A n bs := by rw [HW.out]; exact hN.drewN j
      have TT := Lib.hid (total_any A n c' bs wr hN2 hn hy)
      have wb := wsum_bd bs hy
      rw [hN.len] at wb
      obtain ⟨wb0, wb1⟩ := wb
      have wb2 : wsum bs ≤ 9223372036854775807 := by omega
      have fb := fo_bd (wsum bs)
      obtain ⟨f, ef⟩ : ∃ f, f = fo (wsum bs) := ⟨_, rfl⟩
      rw [← ef] at fb HT
      obtain ⟨fb0, fb1⟩ := fb
      have FF := Lib.hid (show ∀ w, Calls Tryd.prog 95 #[.int .u64 (wsum bs)] w fun e w' => e = .returned (.int .u16 f) ∧ w = w' by rw [ef]; exact fun w => fold_any _ w wb0 wb2)
      clear hcell hN hN2 wb1 ef
      go_wp2_with (first
        | (go_at_call 96; ((with_reducible refine TT.out.mono ?_); rintro e w' ⟨rfl, j2, rfl⟩))
        | (go_at_call 95; ((with_reducible refine (FF.out _).mono ?_); rintro e w' ⟨rfl, rfl⟩)))
      go_roundw
      case rel =>
        refine ⟨k + 1, by omega, by go_num, ⟨_, HT.out.symm, ?_⟩, ?_⟩
        · rfl
        · rw [HW.out]; exact ⟨_, World.drewN_drewN _ _ _⟩
      case measure => simp [intOf]; omega
    · have e : k = m := by omega
      subst e
      have hts : fo s = fo (psum (numsOf ps)) := by
        rw [HS.out, List.take_of_length_le (by rw [HL.out]; omega), fo_fsum _ (parts_byte HP.out)]
      have HT := Lib.hid hts
      clear hts
      go_wp2_with (go_at_call 95; ((with_reducible refine (fold_any _ _ s0 (by omega)).mono ?_); rintro e w' ⟨rfl, rfl⟩))
      go_ret
      exact ⟨ret_int HT.out, j, HW.out⟩
/-- the check sum -/
def ckZ (ps : List Part) : Int := 65535 - fo (psum (numsOf ps))
theorem ckZ_bd (ps : List Part) : 0 ≤ ckZ ps ∧ ckZ ps ≤ 65535 := by unfold ckZ; have := fo_bd (psum (numsOf ps)); omega
theorem check_any (P : Option Addr) (m c : Nat) (ps : List Part) (w : World) (hp : Parts w w.heap.size P ps) (hm : m ≤ 100) (hl : ps.length = m) :
    Calls Tryd.prog 64 #[.slice P m c] w fun e w' => e = .returned (.int .u16 (ckZ ps)) ∧ ∃ j, w' = w.drewN j := by
  have SS := sum_any P m c ps w hp hm hl
  have ee : ckZ ps = 65535 - fo (psum (numsOf ps)) := rfl
  have fb := fo_bd (psum (numsOf ps))
  obtain ⟨f, ef⟩ : ∃ f, f = fo (psum (numsOf ps)) := ⟨_, rfl⟩
  rw [← ef] at fb ee SS
  obtain ⟨fb0, fb1⟩ := fb
  have n1 := not16 fb0 fb1
  have S := Lib.hid SS
  have E := Lib.hid ee
  clear SS ee ef hp hl
  go_enter Tryd.func64, Tryd.ntmps64
  go_wp2_with (go_at_call 81; ((with_reducible refine S.out.mono ?_); rintro e w' ⟨rfl, j2, rfl⟩))
  go_ret
  exact ⟨ret_int E.out.symm, j2, rfl⟩
def RefR (s : Int) (t : Value) : Prop := ∃ f : Int, 0 ≤ f ∧ f ≤ 65535 ∧ f = fo s ∧ t = .int .u16 f
theorem RefR.mk (s : Int) : RefR s (.int .u16 (fo s)) := ⟨_, (fo_bd s).1, (fo_bd s).2, rfl, rfl⟩
set_option maxHeartbeats 1000000 in
theorem sumref_any (P : Option Addr) (m c : Nat) (ps : List Part) (w : World) (hp : Parts w w.heap.size P ps) (hm : m ≤ 100) (hl : ps.length = m) :
    Calls Tryd.prog 47 #[.slice P m c] w fun e w' => e = .returned (.int .u16 (fo (psum (numsOf ps)))) ∧ w = w' := by
  have HP := Lib.hid hp
  have HL := Lib.hid hl
  clear hp hl
  go_enter Tryd.func47, Tryd.ntmps47
  go_wp2_with fail
  go_loop [3, 4] (fun t i => ∃ k : Nat, k ≤ m ∧ i = .int .i64 k ∧ RefR (psum (numsOf (ps.take k))) t) (fun _ i => m - (intOf i).toNat)
  case atStart => exact ⟨0, Nat.zero_le _, rfl, RefR.mk 0⟩
  case round =>
    obtain ⟨k, hk, rfl, ⟨f, f0, f1, hf, rfl⟩⟩ := hrel
    have HF := Lib.hid hf
    clear hf
    by_cases hlt : k < m
    · obtain ⟨b, o, rfl, hbb, hcell, hpart⟩ := HP.out.cell (i := k) (by rw [HL.out]; exact hlt)
      have hkl : k < ps.length := by rw [HL.out]; exact hlt
      have HT := Lib.hid (psum_snoc' ps k hkl)
      have HS := Lib.hid (psum_bd (numsOf (ps.take k)) fun p hp => parts_byte HP.out p (by rw [numsOf, List.map_take] at hp; exact List.mem_of_mem_take hp))
      generalize ps[k] = p at *
      obtain ⟨A, n, c', bs⟩ := p
      obtain ⟨hN, hn, hy⟩ := hpart
      simp only at hcell hN hn hy HT
      have HN := Lib.hid hN
      have HLn := Lib.hid hN.len
      clear hN
      go_wp2_with fail
      go_loop [3, 6] (fun t i => ∃ q : Nat, q ≤ n + 1 ∧ Hid (q % 2 = 0) ∧ i = .int .i64 q ∧ RefR (psum (numsOf (ps.take k)) + wsum (bs.take q)) t) (fun _ i => n - (intOf i).toNat)
      case atStart => exact ⟨0, Nat.zero_le _, Lib.hid rfl, rfl, by rw [HF.out]; simpa [wsum] using RefR.mk _⟩
      case round =>
        obtain ⟨q, hq, hq2, rfl, ⟨g, g0, g1, hg, rfl⟩⟩ := hrel
        have HG := Lib.hid hg
        clear hg
        by_cases hltn : q < n
        · obtain ⟨b', o', rfl, hbb', hcell'⟩ := HN.out.cell (i := q) hltn
          have b1 := getD_byte hy (k := q) (by rw [HLn.out]; exact hltn)
          have hwb := (wsum_bd (bs.take q) (take_byte hy q)).1
          by_cases hod : q + 1 < n
          · have hcell2 : w.cell? ⟨b', o' + (q + 1), none⟩ = some (.int .u8 (bs.getD (q + 1) 0)) := by
              obtain ⟨b'', o'', e, _, h⟩ := HN.out.cell (i := q + 1) hod
              cases e; exact h
            have b2 := getD_byte hy (k := q + 1) (by rw [HLn.out]; exact hod)
            have HU := Lib.hid (wsum_two bs q hq2.out (by rw [HLn.out]; exact hod))
            generalize bs.getD q 0 = x at *
            generalize bs.getD (q + 1) 0 = y at *
            obtain ⟨x0, x1⟩ := b1
            obtain ⟨y0, y1⟩ := b2
            have hrs : RefR (psum (numsOf (ps.take k)) + wsum (bs.take (q + 2))) (.int .u16 (fo (g + (x * 256 + y)))) := by
              rw [HG.out, HU.out, fo_add (by have := HS.out; omega) (by omega), Int.add_assoc]; exact RefR.mk _
            have AA := Lib.hid (add_any g (x * 256 + y) w g0 g1 (by omega) (by omega))
            clear hwb
            go_wp2_with (go_at_call 82; ((with_reducible refine AA.out.mono ?_); rintro e w' ⟨rfl, rfl⟩))
            go_round
            case rel => exact ⟨q + 2, by omega, Lib.hid (by have := hq2.out; omega), by go_num, hrs⟩
            case measure => simp [intOf]; omega
          · have HU := Lib.hid (wsum_last bs q hq2.out (by rw [HLn.out]; omega))
            have e2 : bs.take (q + 2) = bs := List.take_of_length_le (by rw [HLn.out]; omega)
            generalize bs.getD q 0 = x at *
            obtain ⟨x0, x1⟩ := b1
            have hrs : RefR (psum (numsOf (ps.take k)) + wsum (bs.take (q + 2))) (.int .u16 (fo (g + x * 256))) := by
              rw [HG.out, e2, HU.out, fo_add (by have := HS.out; omega) (by omega), Int.add_assoc]; exact RefR.mk _
            have AA := Lib.hid (add_any g (x * 256) w g0 g1 (by omega) (by omega))
            clear hwb e2
            go_wp2_with (go_at_call 82; ((with_reducible refine AA.out.mono ?_); rintro e w' ⟨rfl, rfl⟩))
            go_round
            case rel => exact ⟨q + 2, by omega, Lib.hid (by have := hq2.out; omega), by go_num, hrs⟩
            case measure => simp [intOf]; omega
        · have e2 : bs.take q = bs := List.take_of_length_le (by rw [HLn.out]; omega)
          have hrs : RefR (psum (numsOf (ps.take (k + 1)))) (.int .u16 g) := by
            rw [HT.out, HG.out, e2]; exact RefR.mk _
          clear e2
          go_wp2_with fail
          go_round
          case rel => exact ⟨k + 1, by omega, by go_num, hrs⟩
          case measure => simp [intOf]; omega
    · have e : k = m := by omega
      subst e
      have hts : f = fo (psum (numsOf ps)) := by
        rw [HF.out, List.take_of_length_le (by rw [HL.out]; omega)]
      have HT := Lib.hid hts
      clear hts
      go_wp2_with fail
      go_ret
      exact ⟨ret_int HT.out, rfl⟩
end Go.Proofs.YtniimgbljhmcoaaDoor.chkC

/-
  A packet's header, and its bytes: the document's.
-/
namespace Go.Proofs.YtniimgbljhmcoaaDoor.pkC
open Go.ChangeShapes Go.WideShapes Go.ChangeAt Go.RowKit
open Go.Proofs.YtniimgbljhmcoaaDoor.memC Go.Proofs.YtniimgbljhmcoaaDoor.genC Go.Proofs.YtniimgbljhmcoaaDoor.butC Go.Proofs.YtniimgbljhmcoaaDoor.freeC Go.Proofs.YtniimgbljhmcoaaDoor.adC
set_option linter.unusedVariables false
/-- the flags and the place, as 16 bits -/
def flN (p : Pkt) : Int := p.off / 8 + (if p.whole then 16384 else 0) + (if p.more then 8192 else 0)
/-- a header's bytes ahead of the addresses -/
def topL (p : Pkt) (n : Nat) (ck : Int) : List Int := octC.putL [69, 0] 2 [20 + (n : Int), p.id, flN p] ++ [p.hops, p.proto, ck / 256, ck % 256]
def headL (p : Pkt) (n : Nat) (ck : Int) : List Int := topL p n ck ++ p.a.take 4 ++ p.b.take 4
/-- the header's bytes as they grow -/
def hdR (B : Nat) (vv : Value) (X0 X1 X2 : List Int) : Nat → (Nat → Value) → World → Prop
  | 0, _, w => Own .u8 5 w B vv X0
  | 1, us, w => Own .u8 5 w B (us 4) X1
  | 2, us, w => Own .u8 5 w B (us 8) X2
  | 3, us, w => Own .u8 5 w B (us 9) X2
  | _, _, _ => True
theorem hdR.keep (B : Nat) (vv : Value) (X0 X1 X2 : List Int) (k : Nat) (us us' : Nat → Value) (w w' : World) (h : ∀ x ∈ [4, 8, 9], us' x = us x) (hB : B ≤ w.heap.size) (hb : Below w.heap.size w w') (hR : hdR B vv X0 X1 X2 k us w) : hdR B vv X0 X1 X2 k us' w' := by
  have h4 := h 4 (by simp); have h8 := h 8 (by simp); have h9 := h 9 (by simp)
  unfold hdR at hR ⊢
  split at hR <;> first | exact hR.below hb | (rw [h4]; exact hR.below hb) | (rw [h8]; exact hR.below hb) | (rw [h9]; exact hR.below hb) | trivial
def hdV (vv : Value) (g0 : Nat) : Nat → Value → World → Prop
  | 0, v, _ => v = vv
  | 1, v, _ => v = .pointer (some ⟨g0, 0, none⟩)
  | 2, v, _ => v = .pointer (some ⟨g0, 1, none⟩)
  | 3, v, _ => v = .slice (some ⟨g0, 1, none⟩) 4 16
  | 5, v, _ => v = .pointer (some ⟨g0, 17, none⟩)
  | 6, v, _ => v = .pointer (some ⟨g0, 18, none⟩)
  | 7, v, _ => v = .slice (some ⟨g0, 18, none⟩) 4 16
  | _, _, _ => True
theorem hdV.keep (vv : Value) (g0 : Nat) (i : Nat) (v : Value) (w w' : World) (h : hdV vv g0 i v w) : hdV vv g0 i v w' := by
  unfold hdV at h ⊢
  split at h <;> exact h
/-- the call's own bytes, as a result -/
def OwnB (w : World) (bs : List Int) (e : Ending) (w' : World) : Prop := ∃ v, e = .returned v ∧ Own .u8 5 w' w.heap.size v bs ∧ Below w.heap.size w w'
end Go.Proofs.YtniimgbljhmcoaaDoor.pkC

/-
  Rows of parts that the call lays itself; what alive does; the walk of the second statement.
-/
namespace Go.Proofs.YtniimgbljhmcoaaDoor.chkC
open Go.ChangeShapes Go.WideShapes Go.ChangeAt Go.RowKit
open Go.Proofs.YtniimgbljhmcoaaDoor.memC Go.Proofs.YtniimgbljhmcoaaDoor.chkM
set_option linter.unusedVariables false
theorem bel_drewN {B : Nat} {a w : World} (h : Below B a w) (n : Nat) : Below B a (w.drewN n) := ⟨h.os, h.tape, h.output, h.size, h.block⟩
theorem alloc_below (w : World) (o : Obj) : Below w.heap.size w (w.alloc o) := (Below.refl _ _).alloc (Nat.le_refl _) _
theorem alloc_size (w : World) (o : Obj) : (w.alloc o).heap.size = w.heap.size + 1 := by simp
theorem PartAt.alloc {w : World} {p : Part} (h : PartAt w w.heap.size p) (o : Obj) : PartAt (w.alloc o) (w.alloc o).heap.size p := h.below (alloc_below w o) (alloc_below w o).size
theorem parts1 {w : World} {A : Option Addr} {n c : Nat} {bs : List Int} (h : PartAt w w.heap.size ⟨A, n, c, bs⟩) (T : TypeId) :
    Parts (w.alloc (.cells #[.slice A n c] T)) (w.alloc (.cells #[.slice A n c] T)).heap.size (some ⟨w.heap.size, 0, none⟩) [⟨A, n, c, bs⟩] := by
  refine ⟨fun _ => ⟨_, 0, rfl, by rw [alloc_size]; exact Nat.lt_succ_self _, fun i hi => ?_⟩, fun p hp => ?_⟩
  · obtain rfl : i = 0 := by simpa using hi
    simp [go_sem]
  · obtain rfl := List.mem_singleton.1 hp
    exact h.alloc _
theorem parts2 {w : World} {A A' : Option Addr} {n c n' c' : Nat} {bs bs' : List Int} (h : PartAt w w.heap.size ⟨A, n, c, bs⟩) (h' : PartAt w w.heap.size ⟨A', n', c', bs'⟩) (T : TypeId) :
    Parts (w.alloc (.cells #[.slice A n c, .slice A' n' c'] T)) (w.alloc (.cells #[.slice A n c, .slice A' n' c'] T)).heap.size (some ⟨w.heap.size, 0, none⟩) [⟨A, n, c, bs⟩, ⟨A', n', c', bs'⟩] := by
  refine ⟨fun _ => ⟨_, 0, rfl, by rw [alloc_size]; exact Nat.lt_succ_self _, fun i hi => ?_⟩, fun p hp => ?_⟩
  · simp only [List.length_cons, List.length_nil] at hi
    match i, hi with
    | 0, _ => simp [go_sem]
    | 1, _ => simp [go_sem]
  · rcases List.mem_cons.1 hp with rfl | hp
    · exact h.alloc _
    · obtain rfl := List.mem_singleton.1 hp
      exact h'.alloc _
theorem parts3 {w : World} {A A' A2 : Option Addr} {n c n' c' n2 c2 : Nat} {bs bs' bs2 : List Int} (h : PartAt w w.heap.size ⟨A, n, c, bs⟩) (h' : PartAt w w.heap.size ⟨A', n', c', bs'⟩) (h2 : PartAt w w.heap.size ⟨A2, n2, c2, bs2⟩) (T : TypeId) :
    Parts (w.alloc (.cells #[.slice A n c, .slice A' n' c', .slice A2 n2 c2] T)) (w.alloc (.cells #[.slice A n c, .slice A' n' c', .slice A2 n2 c2] T)).heap.size (some ⟨w.heap.size, 0, none⟩) [⟨A, n, c, bs⟩, ⟨A', n', c', bs'⟩, ⟨A2, n2, c2, bs2⟩] := by
  refine ⟨fun _ => ⟨_, 0, rfl, by rw [alloc_size]; exact Nat.lt_succ_self _, fun i hi => ?_⟩, fun p hp => ?_⟩
  · simp only [List.length_cons, List.length_nil] at hi
    match i, hi with
    | 0, _ => simp [go_sem]
    | 1, _ => simp [go_sem]
    | 2, _ => simp [go_sem]
  · rcases List.mem_cons.1 hp with rfl | hp
    · exact h.alloc _
    · rcases List.mem_cons.1 hp with rfl | hp
      · exact h'.alloc _
      · obtain rfl := List.mem_singleton.1 hp
        exact h2.alloc _
end Go.Proofs.YtniimgbljhmcoaaDoor.chkC
