/-
  3 texts of a proof, joined.
-/
import Derived.Test.YtniimgbljhmcoaaDoorMg13
import Derived.Test.YtniimgbljhmcoaaDoorMg19
import Derived.Test.YtniimgbljhmcoaaDoorMg20
import Derived.Test.YtniimgbljhmcoaaDoorMg18

/-
  Options' bytes: the program's Lay.
-/
namespace Go.Proofs.YtniimgbljhmcoaaDoor.opC
open Go.ChangeShapes Go.WideShapes Go.ChangeAt Go.RowKit
open Go.Proofs.YtniimgbljhmcoaaDoor.memC Go.Proofs.YtniimgbljhmcoaaDoor.genC Go.Proofs.YtniimgbljhmcoaaDoor.butC Go.Proofs.YtniimgbljhmcoaaDoor.freeC Go.Proofs.YtniimgbljhmcoaaDoor.adC
open Go.Proofs.YtniimgbljhmcoaaDoor.kdC (Key BytesRet)
open Go.Proofs.YtniimgbljhmcoaaDoor.pkC (OwnE)
set_option linter.unusedVariables false
def layX (o : Opt) : List Int := if mayB o = true then layL o else []
theorem may_sk {o : Opt} (h : mayB o = true) : o.sk.length ≤ 4 := by
  simp only [mayB, Bool.and_eq_true, decide_eq_true_eq] at h
  exact h.2.2.1
theorem piece_has {o : Opt} {k : Int} (h : hasB o k = true) (h4 : o.sk.length ≤ 4) : pieceL o k = [k, ((sizeK k o.sk.length : Nat) : Int)] ++ toldL o k := by
  have h256 : sizeK k o.sk.length < 256 := by unfold sizeK; repeat (first | omega | split)
  unfold pieceL
  rw [if_pos h, Nat.mod_eq_of_lt h256]
  rfl
theorem piece_not {o : Opt} {k : Int} (h : hasB o k = false) : pieceL o k = [] := by
  unfold pieceL
  rw [if_neg (by rw [h]; decide)]
set_option maxRecDepth 100000 in
set_option maxHeartbeats 2000000 in
theorem clay_any (o : Opt) (A : Option Addr) (n c : Nat) (w : World) (hk : Kd w) (ho : o.Ok) (hn : o.sk.length = n) (hs : Prs w w.heap.size A n o.sk) (hm : n ≤ 100000) :
    Calls Tryd.prog 29 #[.agg (optV o A n c)] w (OwnE w (layX o) (layE o)) := by
  have MA := Lib.hid (fun w' (h : Kd w') => cmay_any o A n c w' h ho.lm hn hm)
  have HS := Lib.hid (fun (k : Int) (w : World) => has_any o A n c k w ho.lm hn)
  have TO := Lib.hid (fun (k : Int) (w' : World) (h : Prs w' w'.heap.size A n o.sk) (h4 : n ≤ 4) => told_any o A n c k w' ho hn h (by omega))
  obtain ⟨C, hC⟩ : ∃ C, C = optV o A n c := ⟨_, rfl⟩
  have OC : OptC C o A n c := by rw [hC]; exact optC ho.lm A n c
  rw [← hC] at MA HS TO ⊢
  clear hC
  obtain ⟨i0, hi0, hz0, hz1, hz2⟩ := info_parts octC.byte_info
  have T1 := Lib.hid hi0; have T2 := Lib.hid hz0; have T3 := Lib.hid hz1; have T4 := Lib.hid hz2
  clear hi0 hz0 hz1 hz2
  obtain ⟨W, hW⟩ : ∃ W, W = w.alloc (.cells C 31) := ⟨_, rfl⟩
  have R := Lib.hid (show W.heap[w.heap.size]? = some (.cells C 31 (0, 0)) by rw [hW]; exact heap_alloc_new _ _)
  have HB := Lib.hid (show Below w.heap.size w W by rw [hW]; exact alloc_below _ _)
  have HK := Lib.hid (hk.bel HB.out)
  have HP := Lib.hid ((hs.below HB.out).more HB.out.size)
  have IC := Lib.hid OC.info
  have CS := Lib.hid OC.sk
  have HN := Lib.hid hn
  unfold layX layE
  by_cases hmay : mayB o = true
  rotate_left
  · rw [if_neg hmay, if_neg hmay]
    obtain ⟨b, hb⟩ : ∃ b, mayB o = b := ⟨_, rfl⟩
    rw [hb] at MA hmay
    obtain rfl : b = false := by simpa using hmay
    clear OC hn ho hk hm hs hmay hb
    go_enter Tryd.func29, Tryd.ntmps29
    go_upto_region 1 with fail
    rw [← hW]
    clear hW
    go_wp2_with (first
      | (refine wpList_load_row rfl 31 (.tmp 1) rfl w.heap.size rfl _ _ _ _ R.out Tryd.underlying31 rfl IC.out ?_)
      | (go_at_call 35; (refine (MA.out _ HK.out).mono ?_); rintro e w2 ⟨rfl, B2⟩
         have HB2 := Lib.hid (HB.out.trans (B2.mono HB.out.size))
         clear B2))
    go_ret2
    exact ⟨none, 0, 0, rfl, Own.nil _ _, HB2.out⟩
  rw [if_pos hmay, if_pos hmay]
  rw [hmay] at MA
  have h4 := may_sk hmay
  rw [hn] at h4
  have H4 := Lib.hid h4
  have PE := Lib.hid (show layL o = preL o 6 ++ List.replicate (padN (preL o 6).length) 0 by
    unfold layL
    rw [preL_all, body_len ho.lm])
  have PN := Lib.hid (fun i (h : i ≤ 6) => (show (preL o i).length ≤ 100 by
    have h1 := preN_le o h
    rw [hn] at h1
    have h2 : (preL o i).length = preN o i := flat_len ho.lm _
    omega))
  clear OC hn ho hk hm hs hmay h4
  go_enter Tryd.func29, Tryd.ntmps29
  go_upto_region 1 with fail
  rw [← hW]
  clear hW
  go_upto_region 3 with (first
    | (refine wpList_load_row rfl 31 (.tmp 1) rfl w.heap.size rfl _ _ _ _ R.out Tryd.underlying31 rfl IC.out ?_)
    | (go_at_call 35; (refine (MA.out _ HK.out).mono ?_); rintro e w2 ⟨rfl, B2⟩
       have HB2 := Lib.hid B2
       clear B2))
  have KW := Lib.hid (HK.out.bel HB2.out)
  go_upto_region 5 with (first
    | (refine partC.wpList_load_part rfl 86 (.global 0) rfl 0 0 rfl (macL kinds) _ KW.out.cell Tryd.underlying86 rfl kinds_info ?_))
  have HV := Lib.hid (fun i (h : i < 6) => kinds_at h)
  generalize (macL kinds).toArray = KV at *
  go_loopw [4, 11] (fun v u wr => ∃ (i : Nat) (Ab : Option Addr) (L cb : Nat), i ≤ 6 ∧ v = .slice Ab L cb ∧ u = .int .i64 i ∧ Own .u8 5 wr W.heap.size (.slice Ab L cb) (preL o i) ∧ Below W.heap.size W wr) (fun _ u _ => 6 - (intOf u).toNat)
  case atStart => exact ⟨0, none, 0, 0, by omega, rfl, rfl, by simpa [preL] using Own.nil _ _, HB2.out⟩
  case round =>
    obtain ⟨i, Ab, L, cb, hi, rfl, rfl, O, BW⟩ := hrel
    have HBW := Lib.hid BW
    have hL : L = (preL o i).length := O.len.symm
    by_cases hlt : i < 6
    · have ix : (Instr.index 86 (.agg KV) (.int .i64 (i : Int))).run Tryd.prog wr = .ok (.int .u8 (kindAt i)) wr := idxC.run_idx wr _ _ 6 .u8 i0 KV i _ Tryd.underlying86 rfl T1.out T3.out hlt (HV.out i hlt)
      have hst := preL_step o hlt
      have hl2 := PN.out (i + 1) (by omega)
      have HI := Lib.hid hlt
      have RW := Lib.hid (show wr.heap[w.heap.size]? = some (.cells C 31 (0, 0)) by rw [BW.block _ (lt_of_row R.out)]; exact R.out)
      have SZ := Lib.hid (fun w => size_any (kindAt i) n n w rfl (by have := H4.out; omega))
      have HAS := Lib.hid (fun w => HS.out (kindAt i) w)
      have TOI := Lib.hid (fun w h => TO.out (kindAt i) w h H4.out)
      have q6 : (i : Int) < 6 := by omega
      have PH := Lib.hid (fun h => piece_has (o := o) (k := kindAt i) h (by rw [HN.out]; exact H4.out))
      have PT := Lib.hid (fun h => piece_not (o := o) (k := kindAt i) h)
      have hz34 : sizeK (kindAt i) n ≤ 34 := by have := H4.out; unfold sizeK; repeat (first | omega | split)
      rw [HN.out] at PH
      have KB := Lib.hid (kindAt_byte hlt)
      generalize kindAt i = k at *
      obtain ⟨b, hb⟩ : ∃ b, hasB o k = b := ⟨_, rfl⟩
      rw [hb] at HAS PH PT
      have HO := Lib.hid O
      have HL := Lib.hid hL
      cases b
      · have hst2 := Lib.hid (hst.trans (by rw [PT.out rfl, List.append_nil]))
        clear BW hi hlt hb O hL hst hl2 hz34
        go_wp2_with (first
          | (refine wpList_load_row rfl 31 (.tmp 1) rfl w.heap.size rfl _ _ _ _ RW.out Tryd.underlying31 rfl IC.out ?_)
          | (go_at_call 58; (refine (HAS.out _).mono ?_); rintro e w2 ⟨rfl, B2⟩
             have HB3 := Lib.hid B2
             clear B2))
        go_roundw
        case rel =>
          exact ⟨i + 1, Ab, L, cb, by have := HI.out; omega, rfl, by go_num, by rw [hst2.out]; exact HO.out.below HB3.out, HBW.out.trans (HB3.out.mono HBW.out.size)⟩
        case measure => simp [intOf]; omega
      · rw [PH.out rfl] at hst
        obtain ⟨z, hz⟩ : ∃ z, z = sizeK k n := ⟨_, rfl⟩
        rw [← hz] at SZ hst hz34
        have wz : IntKind.u8.wrap (z : Int) = (z : Int) := IntWalk.u8_in _ (by omega)
        obtain ⟨T, hT⟩ : ∃ T, T = toldL o k := ⟨_, rfl⟩
        rw [← hT] at TOI hst
        obtain ⟨m, hm⟩ : ∃ m, m = T.length := ⟨_, rfl⟩
        rw [← hm] at TOI
        obtain ⟨X, hX⟩ : ∃ X, X = preL o i := ⟨_, rfl⟩
        rw [← hX] at HO hst hL
        have hlen : X.length + 2 + m ≤ 100 := by rw [hst, List.length_append, List.length_append] at hl2; simp at hl2; omega
        have HST := Lib.hid hst
        have HLEN := Lib.hid hlen
        have HX := Lib.hid hL
        obtain ⟨L2, hL2⟩ : ∃ L2, X.length + 2 = L2 := ⟨_, rfl⟩
        obtain ⟨L3, hL3⟩ : ∃ L3, L2 + m = L3 := ⟨_, rfl⟩
        have E2 := Lib.hid hL2
        have E3 := Lib.hid hL3
        clear BW hi hlt hb O hL hst hl2 hz34 hz hT hm hX hlen hL2 hL3
        go_upto_region 8 with (first
          | (refine wpList_load_row rfl 31 (.tmp 1) rfl w.heap.size rfl _ _ _ _ RW.out Tryd.underlying31 rfl IC.out ?_)
          | (go_at_call 58; (refine (HAS.out _).mono ?_); rintro e w2 ⟨rfl, B2⟩
             have O2 := Lib.hid (HO.out.below B2)
             have B2W := Lib.hid (HBW.out.trans (B2.mono HBW.out.size))
             have R2 := Lib.hid (show w2.heap[w.heap.size]? = some (.cells C 31 (0, 0)) by rw [B2.block _ (lt_of_row RW.out)]; exact RW.out)
             have c5 := pkC.PkC.cell R2.out CS.out
             clear B2))
        go_upto_region 9 with (first
          | (go_at_call 59; (refine (SZ.out _).mono ?_); rintro e w3 ⟨rfl, hw⟩; obtain rfl := hw.symm)
          | (at_builtin; (refine wpList_appT _ rfl (.tmp 17) (.tmp 25) _ rfl 5 i0 _ 1 Tryd.underlying32 T1.out T2.out T3.out T4.out rfl W.heap.size _ X rfl (O2.out.alloc _) (w2.heap.size + 1) (some ⟨w2.heap.size, 0, none⟩) 2 2 [k, (z : Int)] rfl (lit_nums .u8 w2 [k, (z : Int)] 5 _ rfl 2 rfl) (by simp only [maxLen]; have := HLEN.out; omega) (by have := HLEN.out; omega) (Nat.le_trans B2W.out.size (alloc_below w2 _).size) L2 E2.out ?_)
             intro A4 c4 w4 g1 g2 O4 B4
             have HO4 := Lib.hid O4
             have HB4 := Lib.hid ((B2W.out.trans ((alloc_below w2 (.cells #[.int .u8 k, .int .u8 z] 5)).mono B2W.out.size)).trans B4)
             clear O4 B4 g1 g2))
        have R4 := Lib.hid (show w4.heap[w.heap.size]? = some (.cells C 31 (0, 0)) by rw [HB4.out.block _ (lt_of_row R.out)]; exact R.out)
        have P4 := Lib.hid ((HP.out.below HB4.out).more HB4.out.size)
        clear c5
        go_wp2_with (first
          | (refine wpList_load_row rfl 31 (.tmp 1) rfl w.heap.size rfl _ _ _ _ R4.out Tryd.underlying31 rfl IC.out ?_)
          | (go_at_call 60; (refine (TOI.out _ P4.out).mono ?_); rintro e w5 ⟨A5, c5, rfl, O5, K5, B5⟩
             have HO5 := Lib.hid (HO4.out.below B5)
             have HK5 := Lib.hid K5.nums
             have HB5 := Lib.hid (HB4.out.trans (B5.mono HB4.out.size))
             clear O5 K5 B5)
          | (at_builtin; (refine wpList_appT _ rfl (.tmp 27) (.tmp 30) _ rfl 5 i0 _ 1 Tryd.underlying32 T1.out T2.out T3.out T4.out rfl W.heap.size _ (X ++ [k, (z : Int)]) rfl HO5.out w5.heap.size _ m c5 T rfl HK5.out (by simp only [maxLen, List.length_append, List.length_cons, List.length_nil]; have := HLEN.out; omega) (by simp only [List.length_append, List.length_cons, List.length_nil]; have := HLEN.out; omega) HB5.out.size L3 (by simp only [List.length_append, List.length_cons, List.length_nil]; have := E2.out; have := E3.out; omega) ?_)
             intro A6 c6 w6 g1 g2 O6 B6
             have HO6 := Lib.hid O6
             have HB6 := Lib.hid (HB5.out.trans B6)
             clear O6 B6 g1 g2))
        go_roundw
        case rel =>
          exact ⟨i + 1, A6, L3, c6, by have := HI.out; omega, rfl, by go_num, by rw [HST.out, ← List.append_assoc]; exact HO6.out, HB6.out⟩
        case measure => simp [intOf]; omega
    · have h6 : i = 6 := by omega
      subst h6
      have hl6 := PN.out 6 (by omega)
      obtain ⟨X, hX⟩ : ∃ X, X = preL o 6 := ⟨_, rfl⟩
      rw [← hX] at O hL hl6 PE
      subst hL
      have MI := Lib.hid (fun w => missing_any X.length w (by omega))
      have hp : padN X.length ≤ 3 := by unfold padN; omega
      obtain ⟨v', w', hr, O', hg⟩ := run_app_zeros wr W.heap.size _ X O 32 (padN X.length) (by omega) (by omega) BW.size
      have HR := Lib.hid hr
      have HG := Lib.hid (HBW.out.trans ((Below.refl wr.heap.size wr).mono BW.size |>.grown hg BW.size fun g hg => (O.blk g hg).1))
      obtain ⟨A7, c7, e7, g1, g2, N7⟩ := O'.form
      subst e7
      have HO := Lib.hid (O'.less HB.out.size)
      generalize padN X.length = z at *
      clear hl6 hp hr hg g1 g2 N7 O' O BW hX hi hlt
      go_wp2_with (first
          | (go_at_call 61; (refine (MI.out _).mono ?_); rintro e w3 ⟨rfl, hw⟩; obtain rfl := hw.symm)
          | (at_builtin; (refine Lib.wpList_append_run _ rfl (.tmp 33) (.tmp 36) _ _ rfl _ _ rfl rfl _ _ HR.out ?_)))
      go_ret2
      have HO2 := HO.out
      rw [show (X ++ List.replicate z (0 : Int)).length = X.length + z by simp] at HO2
      exact ⟨A7, _, c7, rfl, by rw [PE.out]; exact HO2, HB.out.trans (HG.out.mono HB.out.size)⟩
end Go.Proofs.YtniimgbljhmcoaaDoor.opC

/-
  Whether two rows of pairs, and two options, are the same: the program's.
-/
namespace Go.Proofs.YtniimgbljhmcoaaDoor.opC
open Go.ChangeShapes Go.WideShapes Go.ChangeAt Go.RowKit
open Go.Proofs.YtniimgbljhmcoaaDoor.memC Go.Proofs.YtniimgbljhmcoaaDoor.genC Go.Proofs.YtniimgbljhmcoaaDoor.butC Go.Proofs.YtniimgbljhmcoaaDoor.freeC Go.Proofs.YtniimgbljhmcoaaDoor.adC
set_option linter.unusedVariables false
theorem neq_run {P : Program} {fr : Act} {o : Oper} {w : World} {T R : TypeId} {s x : Tmp} {A B : Array Value} {q : Bool} (ho : o.op = .binOp .neq T (.tmp s) (.tmp x) R) (hs : fr.tmps[s]?.getD undef = .agg A) (hx : fr.tmps[x]?.getD undef = .agg B)
    (hq : (Op.equalIn 10000 T (.agg A) (.agg B)).run P w = .ok q w) (hgd : P.eqGuardType P.depth T = false) : (execOp fr.eval o).run P w = .ok (.value (.bool (!q))) w := by
  unfold execOp
  rw [ho]
  go_simp
theorem gr_drewG (w : World) (n : Nat) : Gr w (w.drewN n) := bel_drewN (Below.refl _ _) n
theorem Prs.cells2 {w w' : World} {B : Nat} {b o i : Nat} {x y : Int} (h0 : w.cell? ⟨b, o + i * 2, none⟩ = some (.int .u32 x)) (h1 : w.cell? ⟨b, o + i * 2 + 1, none⟩ = some (.int .u32 y)) (hb : b < B) (hB : Below B w w') :
    ∀ j v, ([.int .u32 x, .int .u32 y] : List Value)[j]? = some v → w'.cell? ⟨b, o + i * 2 + j, none⟩ = some v := fun j v hv => by
  rw [hB.cell (p := ⟨b, o + i * 2 + j, none⟩) hb]
  match j, hv with
  | 0, hv => rw [← Option.some.inj hv]; exact h0
  | 1, hv => rw [← Option.some.inj hv]; exact h1
theorem blk_sizeL (x y : Int) : (Tryd.prog.info? 101).map (·.size) = some ([.int .u32 x, .int .u32 y] : List Value).length := by kernel_rfl
theorem take_eq {ps qs : List (Int × Int)} {i : Nat} (h : ps.take i = qs.take i) (hp : i < ps.length) (hq : i < qs.length) (e : ps.getD i (0, 0) = qs.getD i (0, 0)) : ps.take (i + 1) = qs.take (i + 1) := by
  rw [List.getD_eq_getElem?_getD, List.getD_eq_getElem?_getD, List.getElem?_eq_getElem hp, List.getElem?_eq_getElem hq] at e
  rw [List.take_add_one, List.take_add_one, h, List.getElem?_eq_getElem hp, List.getElem?_eq_getElem hq]
  simp only [Option.getD_some] at e
  rw [e]
def qeV (b1 o1 b2 o2 kx : Nat) (x1 y1 x2 y2 : Int) (n c m d : Nat) (q : Bool) : Nat → Value → World → Prop
  | 0, v, _ => v = .slice (some ⟨b1, o1, none⟩) n c
  | 1, v, _ => v = .int .i64 kx
  | 2, v, _ => v = .pointer (some ⟨b1, o1 + kx * 2, none⟩)
  | 3, v, _ => v = .agg #[.int .u32 x1, .int .u32 y1]
  | 4, v, _ => v = .slice (some ⟨b2, o2, none⟩) m d
  | 5, v, _ => v = .int .i64 kx
  | 6, v, _ => v = .pointer (some ⟨b2, o2 + kx * 2, none⟩)
  | 7, v, _ => v = .agg #[.int .u32 x2, .int .u32 y2]
  | 8, v, _ => v = .bool (!q)
  | _, _, _ => True
theorem qeV.keep (b1 o1 b2 o2 kx : Nat) (x1 y1 x2 y2 : Int) (n c m d : Nat) (q : Bool) (i : Nat) (v : Value) (w w' : World) (hb : Below w.heap.size w w') (h : qeV b1 o1 b2 o2 kx x1 y1 x2 y2 n c m d q i v w) : qeV b1 o1 b2 o2 kx x1 y1 x2 y2 n c m d q i v w' := by
  unfold qeV at h ⊢
  split at h <;> exact h
def qeT : List (Option Nat) := [none, none, none, none, none, none, none, none, none, none, none, none, none, none, none, none, some 0, some 1, some 2, some 3, some 4, some 5, some 6, some 7, some 8, none]
set_option maxRecDepth 100000 in
set_option maxHeartbeats 2000000 in
theorem equal_any (A A' : Option Addr) (n c m d : Nat) (ps qs : List (Int × Int)) (w : World) (hp : Prs w w.heap.size A n ps) (hq : Prs w w.heap.size A' m qs) (hn : n ≤ 1000000) (hm : m ≤ 1000000) :
    Calls Tryd.prog 72 #[.slice A n c, .slice A' m d] w (Ret w (.bool (decide (ps = qs)))) := by
  have HP := Lib.hid hp
  have HQ := Lib.hid hq
  obtain ⟨V, hV⟩ : ∃ V, V = decide (ps = qs) := ⟨_, rfl⟩
  rw [← hV]
  have HV := Lib.hid hV
  have LP := Lib.hid hp.len
  have LQ := Lib.hid hq.len
  by_cases hnm : n = m
  rotate_left
  · have q1 : ((n : Int) == (m : Int)) = false := beq_eq_false_iff_ne.2 (by omega)
    have q2 : ((n : Int) != (m : Int)) = true := by simp; omega
    have hv := Lib.hid (show V = false by rw [HV.out]; exact decide_eq_false (fun h => hnm (by rw [← LP.out, ← LQ.out, h])))
    clear hV hp hq hnm
    go_enter Tryd.func72, Tryd.ntmps72
    go_wp2_with fail
    go_ret
    exact ⟨ret_bool hv.out.symm, Below.refl _ _⟩
  subst hnm
  have q1 : ((n : Int) != (n : Int)) = false := by simp
  clear hV hp hq
  go_enter Tryd.func72, Tryd.ntmps72
  go_upto_region 4 with fail
  go_loopw [13] (fun u wr => ∃ i : Nat, i ≤ n ∧ u = .int .i64 i ∧ ps.take i = qs.take i ∧ Below w.heap.size w wr) (fun u _ => n - (intOf u).toNat)
  case atStart => exact ⟨0, by omega, rfl, rfl, Below.refl _ _⟩
  case round =>
    obtain ⟨i, hi, rfl, E, BW⟩ := hrel
    by_cases hlt : i < n
    · obtain ⟨b1, o1, hA1, hb1, c0, c1⟩ := HP.out.cell hlt
      obtain ⟨b2, o2, hA2, hb2, d0, d1⟩ := HQ.out.cell hlt
      have hE := fun e => take_eq (ps := ps) (qs := qs) E (by rw [LP.out]; exact hlt) (by rw [LQ.out]; exact hlt) e
      obtain ⟨p, hp⟩ : ∃ p, p = ps.getD i (0, 0) := ⟨_, rfl⟩
      obtain ⟨q', hq⟩ : ∃ q', q' = qs.getD i (0, 0) := ⟨_, rfl⟩
      have EB := Lib.hid (fun w => eqB p q' w)
      have hne : p ≠ q' → ps ≠ qs := fun h e => h (by rw [hp, hq, e])
      rw [← hp] at c0 c1 hE
      rw [← hq] at d0 d1 hE
      have C1 := Lib.hid (fun w' (h : Gr wr w') => Prs.cells2 c0 c1 hb1 (BW.trans (Below.mono h BW.size)))
      have C2 := Lib.hid (fun w' (h : Gr wr w') => Prs.cells2 d0 d1 hb2 (BW.trans (Below.mono h BW.size)))
      have HE := Lib.hid hE
      have HNE := Lib.hid hne
      unfold pairV at EB
      clear hp hq
      obtain ⟨x1, y1⟩ := p
      obtain ⟨x2, y2⟩ := q'
      simp only at C1 C2 EB
      obtain ⟨q, hq⟩ : ∃ q, q = decide ((x1, y1) = (x2, y2)) := ⟨_, rfl⟩
      rw [← hq] at EB
      have HQB := Lib.hid hq
      have I1 := Lib.hid (show (i : Int) < (n : Int) by omega)
      have I2 := Lib.hid (show (i : Int) < (n : Int) by omega)
      have KI := Lib.hid (show (0 : Int) ≤ (i : Int) by omega)
      have q6 : (i : Int) < (n : Int) := by omega
      have wi : IntKind.i64.wrap ((i : Int) + 1) = (i : Int) + 1 := IntWalk.i64_in _ (by omega)
      have HI := Lib.hid hlt
      have HBW := Lib.hid BW
      subst hA1
      subst hA2
      clear E BW hE hne c0 c1 d0 d1 hb1 hb2 hq hi hlt
      go_upto_region 6 with fail
      refine with_act fun a0 ha0 => ?_
      have hl : qeT.length = a0.tmps.size := by rw [ha0]; rfl
      have k0 : a0.tmps[0]?.getD undef = .slice (some ⟨b1, o1, none⟩) n c := by rw [ha0]; rfl
      have k1 : a0.tmps[1]?.getD undef = .slice (some ⟨b2, o2, none⟩) n d := by rw [ha0]; rfl
      have k5 : a0.tmps[5]?.getD undef = .int .i64 i := by rw [ha0]; rfl
      refine wp_region_vals (by kernel_rfl) qeT (by kernel_rfl) (by kernel_rfl) hl (fun i => a0.tmps[i + 16]?.getD undef) (by rw [ha0]; rfl) (Gr wr) (qeV b1 o1 b2 o2 i x1 y1 x2 y2 n c n d q) (gr_drewG _ _) (qeV.keep _ _ _ _ _ _ _ _ _ _ _ _ _ _) ⟨?_, ?_, ?_, ?_, ?_, ?_, ?_, ?_, ?_, trivial⟩ ?_
      · refine step_plain [] (by kernel_rfl) rfl fun us w' hG hV => ?_
        have o0 := (frame_old2 (us := us) (a := a0) (show (qeT[0]?).join = none from rfl)).trans k0
        generalize frame qeT a0 us = fr at *
        exact val_ok (v := .slice (some ⟨b1, o1, none⟩) n c) (w' := w') (by go_simp) hG (Below.refl _ _) rfl
      · refine step_plain [] (by kernel_rfl) rfl fun us w' hG hV => ?_
        have o5 := (frame_old2 (us := us) (a := a0) (show (qeT[5]?).join = none from rfl)).trans k5
        generalize frame qeT a0 us = fr at *
        exact val_ok (v := .int .i64 i) (w' := w') (by go_simp) hG (Below.refl _ _) rfl
      · refine step_plain [0, 1] (by kernel_rfl) rfl fun us w' hG hV => ?_
        have e0 : us 0 = .slice (some ⟨b1, o1, none⟩) n c := hV 0 (by simp)
        have v0 := (frame_at2 (us := us) hl (show (qeT[16]?).join = some 0 from rfl)).trans e0
        have e1 : us 1 = .int .i64 i := hV 1 (by simp)
        have v1 := (frame_at2 (us := us) hl (show (qeT[17]?).join = some 1 from rfl)).trans e1
        have hi := I1.out
        have hk := KI.out
        generalize frame qeT a0 us = fr at *
        exact val_ok (v := .pointer (some ⟨b1, o1 + i * 2, none⟩)) (w' := w') (by go_simp) hG (Below.refl _ _) rfl
      · refine step_plain [2] (by kernel_rfl) rfl fun us w' hG hV => ?_
        have e2 : us 2 = .pointer (some ⟨b1, o1 + i * 2, none⟩) := hV 2 (by simp)
        have v2 := (frame_at2 (us := us) hl (show (qeT[18]?).join = some 2 from rfl)).trans e2
        have hg1 := C1.out w' hG
        generalize frame qeT a0 us = fr at *
        exact val_ok (v := .agg #[.int .u32 x1, .int .u32 y1]) (w' := w') (loadp_run (s := 18) rfl v2 [.int .u32 x1, .int .u32 y1] _ hg1 Tryd.underlying101 rfl (blk_sizeL _ _)) hG (Below.refl _ _) rfl
      · refine step_plain [] (by kernel_rfl) rfl fun us w' hG hV => ?_
        have o1 := (frame_old2 (us := us) (a := a0) (show (qeT[1]?).join = none from rfl)).trans k1
        generalize frame qeT a0 us = fr at *
        exact val_ok (v := .slice (some ⟨b2, o2, none⟩) n d) (w' := w') (by go_simp) hG (Below.refl _ _) rfl
      · refine step_plain [] (by kernel_rfl) rfl fun us w' hG hV => ?_
        have o5 := (frame_old2 (us := us) (a := a0) (show (qeT[5]?).join = none from rfl)).trans k5
        generalize frame qeT a0 us = fr at *
        exact val_ok (v := .int .i64 i) (w' := w') (by go_simp) hG (Below.refl _ _) rfl
      · refine step_plain [4, 5] (by kernel_rfl) rfl fun us w' hG hV => ?_
        have e4 : us 4 = .slice (some ⟨b2, o2, none⟩) n d := hV 4 (by simp)
        have v4 := (frame_at2 (us := us) hl (show (qeT[20]?).join = some 4 from rfl)).trans e4
        have e5 : us 5 = .int .i64 i := hV 5 (by simp)
        have v5 := (frame_at2 (us := us) hl (show (qeT[21]?).join = some 5 from rfl)).trans e5
        have hi := I2.out
        have hk := KI.out
        generalize frame qeT a0 us = fr at *
        exact val_ok (v := .pointer (some ⟨b2, o2 + i * 2, none⟩)) (w' := w') (by go_simp) hG (Below.refl _ _) rfl
      · refine step_plain [6] (by kernel_rfl) rfl fun us w' hG hV => ?_
        have e6 : us 6 = .pointer (some ⟨b2, o2 + i * 2, none⟩) := hV 6 (by simp)
        have v6 := (frame_at2 (us := us) hl (show (qeT[22]?).join = some 6 from rfl)).trans e6
        have hg1 := C2.out w' hG
        generalize frame qeT a0 us = fr at *
        exact val_ok (v := .agg #[.int .u32 x2, .int .u32 y2]) (w' := w') (loadp_run (s := 22) rfl v6 [.int .u32 x2, .int .u32 y2] _ hg1 Tryd.underlying101 rfl (blk_sizeL _ _)) hG (Below.refl _ _) rfl
      · refine step_plain [3, 7] (by kernel_rfl) rfl fun us w' hG hV => ?_
        have e3 : us 3 = .agg #[.int .u32 x1, .int .u32 y1] := hV 3 (by simp)
        have v3 := (frame_at2 (us := us) hl (show (qeT[19]?).join = some 3 from rfl)).trans e3
        have e7 : us 7 = .agg #[.int .u32 x2, .int .u32 y2] := hV 7 (by simp)
        have v7 := (frame_at2 (us := us) hl (show (qeT[23]?).join = some 7 from rfl)).trans e7
        generalize frame qeT a0 us = fr at *
        exact val_ok (v := .bool (!q)) (w' := w') (neq_run (T := 101) (s := 19) (x := 23) rfl v3 v7 (EB.out w') guard_blk) hG (Below.refl _ _) rfl
      · intro us w5 hG hV
        have e8 : us 8 = .bool (!q) := hV 8 (by decide)
        subst ha0
        simp only [frame, qeT, fill]
        rw [e8]
        have HG3 := Lib.hid hG
        clear hV hl hG k0 k1 k5 e8
        cases q
        · have hv := Lib.hid (show V = false by rw [HV.out]; exact decide_eq_false (HNE.out (of_decide_eq_false HQB.out.symm)))
          go_wp2_with fail
          go_ret
          exact ⟨ret_bool hv.out.symm, HBW.out.trans (Below.mono HG3.out HBW.out.size)⟩
        · have he := Lib.hid (HE.out (of_decide_eq_true HQB.out.symm))
          go_wp2_with fail
          go_roundw
          case rel => exact ⟨i + 1, by have := HI.out; omega, by go_num, he.out, HBW.out.trans (Below.mono HG3.out HBW.out.size)⟩
          case measure => simp [intOf]; omega
    · have hin : i = n := by omega
      subst hin
      have hv := Lib.hid (show V = true by
        rw [HV.out]
        rw [List.take_of_length_le (by rw [LP.out]; exact Nat.le_refl _), List.take_of_length_le (by rw [LQ.out]; exact Nat.le_refl _)] at E
        exact decide_eq_true E)
      have HBW := Lib.hid BW
      clear E BW hi hlt
      go_wp2_with fail
      go_ret
      exact ⟨ret_bool hv.out.symm, HBW.out⟩
set_option maxRecDepth 100000 in
set_option maxHeartbeats 8000000 in
theorem csame_any (p q : Opt) (A A' : Option Addr) (n c m d : Nat) (w : World) (hp : p.mac.length = 12) (hq : q.mac.length = 12) (hx : Prs w w.heap.size A n p.sk) (hy : Prs w w.heap.size A' m q.sk) (hn : n ≤ 1000000) (hm : m ≤ 1000000) :
    Calls Tryd.prog 38 #[.agg (optV p A n c), .agg (optV q A' m d)] w (Ret w (.bool (sameB p q))) := by
  obtain ⟨CP, hCP⟩ : ∃ C, C = optV p A n c := ⟨_, rfl⟩
  obtain ⟨CQ, hCQ⟩ : ∃ C, C = optV q A' m d := ⟨_, rfl⟩
  have OP : OptC CP p A n c := by rw [hCP]; exact optC hp A n c
  have OQ : OptC CQ q A' m d := by rw [hCQ]; exact optC hq A' m d
  rw [← hCP, ← hCQ]
  clear hCP hCQ
  have e1 : (w.alloc (.cells CP 31)).heap.size = w.heap.size + 1 := alloc_size _ _
  obtain ⟨W, hW⟩ : ∃ W, W = (w.alloc (.cells CP 31)).alloc (.cells CQ 31) := ⟨_, rfl⟩
  have R0 : W.heap[w.heap.size]? = some (.cells CP 31 (0, 0)) := by rw [hW, Below.block (alloc_below _ _) _ (by rw [e1]; omega)]; exact heap_alloc_new w _
  have R1 : W.heap[w.heap.size + 1]? = some (.cells CQ 31 (0, 0)) := by rw [hW, ← e1]; exact heap_alloc_new _ _
  have HB := Lib.hid (show Below w.heap.size w W by rw [hW]; exact ((Below.refl _ _).alloc (Nat.le_refl _) _).alloc (by simp) _)
  have RA := fun (w' : World) (h : Below W.heap.size W w') => (show w'.heap[w.heap.size]? = some (.cells CP 31 (0, 0)) by rw [h.block _ (lt_of_row R0)]; exact R0)
  have RB := fun (w' : World) (h : Below W.heap.size W w') => (show w'.heap[w.heap.size + 1]? = some (.cells CQ 31 (0, 0)) by rw [h.block _ (lt_of_row R1)]; exact R1)
  have k0 := pkC.PkC.cell R0 OP.hm
  have j0 := pkC.PkC.cell R1 OQ.hm
  have k1 := pkC.PkC.cell R0 OP.ms
  have j1 := pkC.PkC.cell R1 OQ.ms
  have k2 := pkC.PkC.cell R0 OP.hs
  have j2 := pkC.PkC.cell R1 OQ.hs
  have k3 := pkC.PkC.cell R0 OP.sc
  have j3 := pkC.PkC.cell R1 OQ.sc
  have k4 := pkC.PkC.cell R0 OP.so
  have j4 := pkC.PkC.cell R1 OQ.so
  have k5 := pkC.PkC.cell R0 OP.sk
  have j5 := pkC.PkC.cell R1 OQ.sk
  have K6 := Lib.hid (fun w' h => pkC.PkC.cell (RA w' h) OP.ht)
  have J6 := Lib.hid (fun w' h => pkC.PkC.cell (RB w' h) OQ.ht)
  have K7 := Lib.hid (fun w' h => pkC.PkC.cell (RA w' h) OP.va)
  have J7 := Lib.hid (fun w' h => pkC.PkC.cell (RB w' h) OQ.va)
  have K8 := Lib.hid (fun w' h => pkC.PkC.cell (RA w' h) OP.ec)
  have J8 := Lib.hid (fun w' h => pkC.PkC.cell (RB w' h) OQ.ec)
  have K9 := Lib.hid (fun w' h => pkC.PkC.cell (RA w' h) OP.ha)
  have J9 := Lib.hid (fun w' h => pkC.PkC.cell (RB w' h) OQ.ha)
  have K10 := Lib.hid (fun w' h => pkC.PkC.cell (RA w' h) OP.ki)
  have J10 := Lib.hid (fun w' h => pkC.PkC.cell (RB w' h) OQ.ki)
  have K11 := Lib.hid (fun w' h => pkC.PkC.cell (RA w' h) OP.ni)
  have J11 := Lib.hid (fun w' h => pkC.PkC.cell (RB w' h) OQ.ni)
  have MA := Lib.hid (fun (w' : World) (h : Below W.heap.size W w') => (show ∀ j v, (macL p.mac)[j]? = some v → w'.cell? ⟨w.heap.size, 12 + j, none⟩ = some v from fun j v hv => pkC.PkC.cell (RA w' h) (OP.mac j v hv)))
  have MB := Lib.hid (fun (w' : World) (h : Below W.heap.size W w') => (show ∀ j v, (macL q.mac)[j]? = some v → w'.cell? ⟨w.heap.size + 1, 12 + j, none⟩ = some v from fun j v hv => pkC.PkC.cell (RB w' h) (OQ.mac j v hv)))
  have IA := Lib.hid (mac_info hp)
  have IB := Lib.hid (mac_info hq)
  have EM := Lib.hid (fun w => eq12 hp hq w)
  have SS := Lib.hid (equal_any A A' n c m d p.sk q.sk W ((hx.below HB.out).more HB.out.size) ((hy.below HB.out).more HB.out.size) hn hm)
  obtain ⟨V, hV⟩ : ∃ V, V = sameB p q := ⟨_, rfl⟩
  rw [← hV]
  unfold sameB at hV
  generalize decide (p.sk = q.sk) = bs at *
  generalize decide (p.mac = q.mac) = bm at *
  generalize macL p.mac = LA at *
  generalize macL q.mac = LB at *
  generalize p.hm = xhm at *
  generalize q.hm = yhm at *
  generalize p.ms = xms at *
  generalize q.ms = yms at *
  generalize p.hs = xhs at *
  generalize q.hs = yhs at *
  generalize p.sc = xsc at *
  generalize q.sc = ysc at *
  generalize p.so = xso at *
  generalize q.so = yso at *
  generalize p.ht = xht at *
  generalize q.ht = yht at *
  generalize p.va = xva at *
  generalize q.va = yva at *
  generalize p.ec = xec at *
  generalize q.ec = yec at *
  generalize p.ha = xha at *
  generalize q.ha = yha at *
  generalize p.ki = xki at *
  generalize q.ki = yki at *
  generalize p.ni = xni at *
  generalize q.ni = yni at *
  have HV := Lib.hid hV
  clear hp hq hx hy OP OQ R0 R1 RA RB e1 hV
  cases hb0 : (xhm == yhm)
  · have h0 : ¬ xhm = yhm := by simpa using hb0
    have hv := Lib.hid (show V = false by rw [HV.out]; simp [h0])
    clear h0
    go_enter Tryd.func38, Tryd.ntmps38
    simp only [List.append_eq, List.cons_append, List.nil_append]
    have hW2 := hW.symm
    clear hW
    go_wp2_with (first
      | go_skip
      | (with_reducible refine atC.at_load 29 88 ?_; refine pkC.wpList_load_partG (by kernel_rfl) 29 (.tmp 88) (by kernel_rfl) w.heap.size 12 (by kernel_rfl) LA _ (MA.out _ B2.out) Tryd.underlying29 rfl IA.out ?_)
      | (with_reducible refine atC.at_load 29 90 ?_; refine pkC.wpList_load_partG (by kernel_rfl) 29 (.tmp 90) (by kernel_rfl) (w.heap.size + 1) 12 (by kernel_rfl) LB _ (MB.out _ B2.out) Tryd.underlying29 rfl IB.out ?_)
      | (with_reducible refine atC.at_bin .eql 29 ?_; refine wpList_runG (by kernel_rfl) _ (eq_run (T := 29) (s := 89) (x := 91) rfl (by kernel_rfl) (by kernel_rfl) (EM.out _) guard12) ?_)
      | (go_at_call 72; (with_reducible refine SS.out.mono ?_); rintro e w2 ⟨rfl, BB⟩
         have B2 := Lib.hid BB
         have HB2 := Lib.hid (HB.out.trans (BB.mono HB.out.size))
         clear BB
         have k6 := K6.out _ B2.out
         have j6 := J6.out _ B2.out
         have k7 := K7.out _ B2.out
         have j7 := J7.out _ B2.out
         have k8 := K8.out _ B2.out
         have j8 := J8.out _ B2.out
         have k9 := K9.out _ B2.out
         have j9 := J9.out _ B2.out
         have k10 := K10.out _ B2.out
         have j10 := J10.out _ B2.out
         have k11 := K11.out _ B2.out
         have j11 := J11.out _ B2.out))
    go_ret
    exact ⟨ret_bool hv.out.symm, HB.out⟩
  obtain rfl : xhm = yhm := by simpa using hb0
  clear hb0
  by_cases h1 : xms = yms
  rotate_left
  · have hq1 : (xms == yms) = false := beq_eq_false_iff_ne.2 h1
    have hv := Lib.hid (show V = false by rw [HV.out]; simp [h1])
    clear h1
    go_enter Tryd.func38, Tryd.ntmps38
    simp only [List.append_eq, List.cons_append, List.nil_append]
    have hW2 := hW.symm
    clear hW
    go_wp2_with (first
      | go_skip
      | (with_reducible refine atC.at_load 29 88 ?_; refine pkC.wpList_load_partG (by kernel_rfl) 29 (.tmp 88) (by kernel_rfl) w.heap.size 12 (by kernel_rfl) LA _ (MA.out _ B2.out) Tryd.underlying29 rfl IA.out ?_)
      | (with_reducible refine atC.at_load 29 90 ?_; refine pkC.wpList_load_partG (by kernel_rfl) 29 (.tmp 90) (by kernel_rfl) (w.heap.size + 1) 12 (by kernel_rfl) LB _ (MB.out _ B2.out) Tryd.underlying29 rfl IB.out ?_)
      | (with_reducible refine atC.at_bin .eql 29 ?_; refine wpList_runG (by kernel_rfl) _ (eq_run (T := 29) (s := 89) (x := 91) rfl (by kernel_rfl) (by kernel_rfl) (EM.out _) guard12) ?_)
      | (go_at_call 72; (with_reducible refine SS.out.mono ?_); rintro e w2 ⟨rfl, BB⟩
         have B2 := Lib.hid BB
         have HB2 := Lib.hid (HB.out.trans (BB.mono HB.out.size))
         clear BB
         have k6 := K6.out _ B2.out
         have j6 := J6.out _ B2.out
         have k7 := K7.out _ B2.out
         have j7 := J7.out _ B2.out
         have k8 := K8.out _ B2.out
         have j8 := J8.out _ B2.out
         have k9 := K9.out _ B2.out
         have j9 := J9.out _ B2.out
         have k10 := K10.out _ B2.out
         have j10 := J10.out _ B2.out
         have k11 := K11.out _ B2.out
         have j11 := J11.out _ B2.out))
    go_ret
    exact ⟨ret_bool hv.out.symm, HB.out⟩
  subst h1
  cases hb2 : (xhs == yhs)
  · have h2 : ¬ xhs = yhs := by simpa using hb2
    have hv := Lib.hid (show V = false by rw [HV.out]; simp [h2])
    clear h2
    go_enter Tryd.func38, Tryd.ntmps38
    simp only [List.append_eq, List.cons_append, List.nil_append]
    have hW2 := hW.symm
    clear hW
    go_wp2_with (first
      | go_skip
      | (with_reducible refine atC.at_load 29 88 ?_; refine pkC.wpList_load_partG (by kernel_rfl) 29 (.tmp 88) (by kernel_rfl) w.heap.size 12 (by kernel_rfl) LA _ (MA.out _ B2.out) Tryd.underlying29 rfl IA.out ?_)
      | (with_reducible refine atC.at_load 29 90 ?_; refine pkC.wpList_load_partG (by kernel_rfl) 29 (.tmp 90) (by kernel_rfl) (w.heap.size + 1) 12 (by kernel_rfl) LB _ (MB.out _ B2.out) Tryd.underlying29 rfl IB.out ?_)
      | (with_reducible refine atC.at_bin .eql 29 ?_; refine wpList_runG (by kernel_rfl) _ (eq_run (T := 29) (s := 89) (x := 91) rfl (by kernel_rfl) (by kernel_rfl) (EM.out _) guard12) ?_)
      | (go_at_call 72; (with_reducible refine SS.out.mono ?_); rintro e w2 ⟨rfl, BB⟩
         have B2 := Lib.hid BB
         have HB2 := Lib.hid (HB.out.trans (BB.mono HB.out.size))
         clear BB
         have k6 := K6.out _ B2.out
         have j6 := J6.out _ B2.out
         have k7 := K7.out _ B2.out
         have j7 := J7.out _ B2.out
         have k8 := K8.out _ B2.out
         have j8 := J8.out _ B2.out
         have k9 := K9.out _ B2.out
         have j9 := J9.out _ B2.out
         have k10 := K10.out _ B2.out
         have j10 := J10.out _ B2.out
         have k11 := K11.out _ B2.out
         have j11 := J11.out _ B2.out))
    go_ret
    exact ⟨ret_bool hv.out.symm, HB.out⟩
  obtain rfl : xhs = yhs := by simpa using hb2
  clear hb2
  by_cases h3 : xsc = ysc
  rotate_left
  · have hq3 : (xsc == ysc) = false := beq_eq_false_iff_ne.2 h3
    have hv := Lib.hid (show V = false by rw [HV.out]; simp [h3])
    clear h3
    go_enter Tryd.func38, Tryd.ntmps38
    simp only [List.append_eq, List.cons_append, List.nil_append]
    have hW2 := hW.symm
    clear hW
    go_wp2_with (first
      | go_skip
      | (with_reducible refine atC.at_load 29 88 ?_; refine pkC.wpList_load_partG (by kernel_rfl) 29 (.tmp 88) (by kernel_rfl) w.heap.size 12 (by kernel_rfl) LA _ (MA.out _ B2.out) Tryd.underlying29 rfl IA.out ?_)
      | (with_reducible refine atC.at_load 29 90 ?_; refine pkC.wpList_load_partG (by kernel_rfl) 29 (.tmp 90) (by kernel_rfl) (w.heap.size + 1) 12 (by kernel_rfl) LB _ (MB.out _ B2.out) Tryd.underlying29 rfl IB.out ?_)
      | (with_reducible refine atC.at_bin .eql 29 ?_; refine wpList_runG (by kernel_rfl) _ (eq_run (T := 29) (s := 89) (x := 91) rfl (by kernel_rfl) (by kernel_rfl) (EM.out _) guard12) ?_)
      | (go_at_call 72; (with_reducible refine SS.out.mono ?_); rintro e w2 ⟨rfl, BB⟩
         have B2 := Lib.hid BB
         have HB2 := Lib.hid (HB.out.trans (BB.mono HB.out.size))
         clear BB
         have k6 := K6.out _ B2.out
         have j6 := J6.out _ B2.out
         have k7 := K7.out _ B2.out
         have j7 := J7.out _ B2.out
         have k8 := K8.out _ B2.out
         have j8 := J8.out _ B2.out
         have k9 := K9.out _ B2.out
         have j9 := J9.out _ B2.out
         have k10 := K10.out _ B2.out
         have j10 := J10.out _ B2.out
         have k11 := K11.out _ B2.out
         have j11 := J11.out _ B2.out))
    go_ret
    exact ⟨ret_bool hv.out.symm, HB.out⟩
  subst h3
  cases hb4 : (xso == yso)
  · have h4 : ¬ xso = yso := by simpa using hb4
    have hv := Lib.hid (show V = false by rw [HV.out]; simp [h4])
    clear h4
    go_enter Tryd.func38, Tryd.ntmps38
    simp only [List.append_eq, List.cons_append, List.nil_append]
    have hW2 := hW.symm
    clear hW
    go_wp2_with (first
      | go_skip
      | (with_reducible refine atC.at_load 29 88 ?_; refine pkC.wpList_load_partG (by kernel_rfl) 29 (.tmp 88) (by kernel_rfl) w.heap.size 12 (by kernel_rfl) LA _ (MA.out _ B2.out) Tryd.underlying29 rfl IA.out ?_)
      | (with_reducible refine atC.at_load 29 90 ?_; refine pkC.wpList_load_partG (by kernel_rfl) 29 (.tmp 90) (by kernel_rfl) (w.heap.size + 1) 12 (by kernel_rfl) LB _ (MB.out _ B2.out) Tryd.underlying29 rfl IB.out ?_)
      | (with_reducible refine atC.at_bin .eql 29 ?_; refine wpList_runG (by kernel_rfl) _ (eq_run (T := 29) (s := 89) (x := 91) rfl (by kernel_rfl) (by kernel_rfl) (EM.out _) guard12) ?_)
      | (go_at_call 72; (with_reducible refine SS.out.mono ?_); rintro e w2 ⟨rfl, BB⟩
         have B2 := Lib.hid BB
         have HB2 := Lib.hid (HB.out.trans (BB.mono HB.out.size))
         clear BB
         have k6 := K6.out _ B2.out
         have j6 := J6.out _ B2.out
         have k7 := K7.out _ B2.out
         have j7 := J7.out _ B2.out
         have k8 := K8.out _ B2.out
         have j8 := J8.out _ B2.out
         have k9 := K9.out _ B2.out
         have j9 := J9.out _ B2.out
         have k10 := K10.out _ B2.out
         have j10 := J10.out _ B2.out
         have k11 := K11.out _ B2.out
         have j11 := J11.out _ B2.out))
    go_ret
    exact ⟨ret_bool hv.out.symm, HB.out⟩
  obtain rfl : xso = yso := by simpa using hb4
  clear hb4
  cases bs
  · have hv := Lib.hid (show V = false by rw [HV.out]; simp [*])
    go_enter Tryd.func38, Tryd.ntmps38
    simp only [List.append_eq, List.cons_append, List.nil_append]
    have hW2 := hW.symm
    clear hW
    go_wp2_with (first
      | go_skip
      | (with_reducible refine atC.at_load 29 88 ?_; refine pkC.wpList_load_partG (by kernel_rfl) 29 (.tmp 88) (by kernel_rfl) w.heap.size 12 (by kernel_rfl) LA _ (MA.out _ B2.out) Tryd.underlying29 rfl IA.out ?_)
      | (with_reducible refine atC.at_load 29 90 ?_; refine pkC.wpList_load_partG (by kernel_rfl) 29 (.tmp 90) (by kernel_rfl) (w.heap.size + 1) 12 (by kernel_rfl) LB _ (MB.out _ B2.out) Tryd.underlying29 rfl IB.out ?_)
      | (with_reducible refine atC.at_bin .eql 29 ?_; refine wpList_runG (by kernel_rfl) _ (eq_run (T := 29) (s := 89) (x := 91) rfl (by kernel_rfl) (by kernel_rfl) (EM.out _) guard12) ?_)
      | (go_at_call 72; (with_reducible refine SS.out.mono ?_); rintro e w2 ⟨rfl, BB⟩
         have B2 := Lib.hid BB
         have HB2 := Lib.hid (HB.out.trans (BB.mono HB.out.size))
         clear BB
         have k6 := K6.out _ B2.out
         have j6 := J6.out _ B2.out
         have k7 := K7.out _ B2.out
         have j7 := J7.out _ B2.out
         have k8 := K8.out _ B2.out
         have j8 := J8.out _ B2.out
         have k9 := K9.out _ B2.out
         have j9 := J9.out _ B2.out
         have k10 := K10.out _ B2.out
         have j10 := J10.out _ B2.out
         have k11 := K11.out _ B2.out
         have j11 := J11.out _ B2.out))
    go_ret
    exact ⟨ret_bool hv.out.symm, HB2.out⟩
  cases hb6 : (xht == yht)
  · have h6 : ¬ xht = yht := by simpa using hb6
    have hv := Lib.hid (show V = false by rw [HV.out]; simp [h6])
    clear h6
    go_enter Tryd.func38, Tryd.ntmps38
    simp only [List.append_eq, List.cons_append, List.nil_append]
    have hW2 := hW.symm
    clear hW
    go_wp2_with (first
      | go_skip
      | (with_reducible refine atC.at_load 29 88 ?_; refine pkC.wpList_load_partG (by kernel_rfl) 29 (.tmp 88) (by kernel_rfl) w.heap.size 12 (by kernel_rfl) LA _ (MA.out _ B2.out) Tryd.underlying29 rfl IA.out ?_)
      | (with_reducible refine atC.at_load 29 90 ?_; refine pkC.wpList_load_partG (by kernel_rfl) 29 (.tmp 90) (by kernel_rfl) (w.heap.size + 1) 12 (by kernel_rfl) LB _ (MB.out _ B2.out) Tryd.underlying29 rfl IB.out ?_)
      | (with_reducible refine atC.at_bin .eql 29 ?_; refine wpList_runG (by kernel_rfl) _ (eq_run (T := 29) (s := 89) (x := 91) rfl (by kernel_rfl) (by kernel_rfl) (EM.out _) guard12) ?_)
      | (go_at_call 72; (with_reducible refine SS.out.mono ?_); rintro e w2 ⟨rfl, BB⟩
         have B2 := Lib.hid BB
         have HB2 := Lib.hid (HB.out.trans (BB.mono HB.out.size))
         clear BB
         have k6 := K6.out _ B2.out
         have j6 := J6.out _ B2.out
         have k7 := K7.out _ B2.out
         have j7 := J7.out _ B2.out
         have k8 := K8.out _ B2.out
         have j8 := J8.out _ B2.out
         have k9 := K9.out _ B2.out
         have j9 := J9.out _ B2.out
         have k10 := K10.out _ B2.out
         have j10 := J10.out _ B2.out
         have k11 := K11.out _ B2.out
         have j11 := J11.out _ B2.out))
    go_ret
    exact ⟨ret_bool hv.out.symm, HB2.out⟩
  obtain rfl : xht = yht := by simpa using hb6
  clear hb6
  by_cases h7 : xva = yva
  rotate_left
  · have hq7 : (xva == yva) = false := beq_eq_false_iff_ne.2 h7
    have hv := Lib.hid (show V = false by rw [HV.out]; simp [h7])
    clear h7
    go_enter Tryd.func38, Tryd.ntmps38
    simp only [List.append_eq, List.cons_append, List.nil_append]
    have hW2 := hW.symm
    clear hW
    go_wp2_with (first
      | go_skip
      | (with_reducible refine atC.at_load 29 88 ?_; refine pkC.wpList_load_partG (by kernel_rfl) 29 (.tmp 88) (by kernel_rfl) w.heap.size 12 (by kernel_rfl) LA _ (MA.out _ B2.out) Tryd.underlying29 rfl IA.out ?_)
      | (with_reducible refine atC.at_load 29 90 ?_; refine pkC.wpList_load_partG (by kernel_rfl) 29 (.tmp 90) (by kernel_rfl) (w.heap.size + 1) 12 (by kernel_rfl) LB _ (MB.out _ B2.out) Tryd.underlying29 rfl IB.out ?_)
      | (with_reducible refine atC.at_bin .eql 29 ?_; refine wpList_runG (by kernel_rfl) _ (eq_run (T := 29) (s := 89) (x := 91) rfl (by kernel_rfl) (by kernel_rfl) (EM.out _) guard12) ?_)
      | (go_at_call 72; (with_reducible refine SS.out.mono ?_); rintro e w2 ⟨rfl, BB⟩
         have B2 := Lib.hid BB
         have HB2 := Lib.hid (HB.out.trans (BB.mono HB.out.size))
         clear BB
         have k6 := K6.out _ B2.out
         have j6 := J6.out _ B2.out
         have k7 := K7.out _ B2.out
         have j7 := J7.out _ B2.out
         have k8 := K8.out _ B2.out
         have j8 := J8.out _ B2.out
         have k9 := K9.out _ B2.out
         have j9 := J9.out _ B2.out
         have k10 := K10.out _ B2.out
         have j10 := J10.out _ B2.out
         have k11 := K11.out _ B2.out
         have j11 := J11.out _ B2.out))
    go_ret
    exact ⟨ret_bool hv.out.symm, HB2.out⟩
  subst h7
  by_cases h8 : xec = yec
  rotate_left
  · have hq8 : (xec == yec) = false := beq_eq_false_iff_ne.2 h8
    have hv := Lib.hid (show V = false by rw [HV.out]; simp [h8])
    clear h8
    go_enter Tryd.func38, Tryd.ntmps38
    simp only [List.append_eq, List.cons_append, List.nil_append]
    have hW2 := hW.symm
    clear hW
    go_wp2_with (first
      | go_skip
      | (with_reducible refine atC.at_load 29 88 ?_; refine pkC.wpList_load_partG (by kernel_rfl) 29 (.tmp 88) (by kernel_rfl) w.heap.size 12 (by kernel_rfl) LA _ (MA.out _ B2.out) Tryd.underlying29 rfl IA.out ?_)
      | (with_reducible refine atC.at_load 29 90 ?_; refine pkC.wpList_load_partG (by kernel_rfl) 29 (.tmp 90) (by kernel_rfl) (w.heap.size + 1) 12 (by kernel_rfl) LB _ (MB.out _ B2.out) Tryd.underlying29 rfl IB.out ?_)
      | (with_reducible refine atC.at_bin .eql 29 ?_; refine wpList_runG (by kernel_rfl) _ (eq_run (T := 29) (s := 89) (x := 91) rfl (by kernel_rfl) (by kernel_rfl) (EM.out _) guard12) ?_)
      | (go_at_call 72; (with_reducible refine SS.out.mono ?_); rintro e w2 ⟨rfl, BB⟩
         have B2 := Lib.hid BB
         have HB2 := Lib.hid (HB.out.trans (BB.mono HB.out.size))
         clear BB
         have k6 := K6.out _ B2.out
         have j6 := J6.out _ B2.out
         have k7 := K7.out _ B2.out
         have j7 := J7.out _ B2.out
         have k8 := K8.out _ B2.out
         have j8 := J8.out _ B2.out
         have k9 := K9.out _ B2.out
         have j9 := J9.out _ B2.out
         have k10 := K10.out _ B2.out
         have j10 := J10.out _ B2.out
         have k11 := K11.out _ B2.out
         have j11 := J11.out _ B2.out))
    go_ret
    exact ⟨ret_bool hv.out.symm, HB2.out⟩
  subst h8
  cases hb9 : (xha == yha)
  · have h9 : ¬ xha = yha := by simpa using hb9
    have hv := Lib.hid (show V = false by rw [HV.out]; simp [h9])
    clear h9
    go_enter Tryd.func38, Tryd.ntmps38
    simp only [List.append_eq, List.cons_append, List.nil_append]
    have hW2 := hW.symm
    clear hW
    go_wp2_with (first
      | go_skip
      | (with_reducible refine atC.at_load 29 88 ?_; refine pkC.wpList_load_partG (by kernel_rfl) 29 (.tmp 88) (by kernel_rfl) w.heap.size 12 (by kernel_rfl) LA _ (MA.out _ B2.out) Tryd.underlying29 rfl IA.out ?_)
      | (with_reducible refine atC.at_load 29 90 ?_; refine pkC.wpList_load_partG (by kernel_rfl) 29 (.tmp 90) (by kernel_rfl) (w.heap.size + 1) 12 (by kernel_rfl) LB _ (MB.out _ B2.out) Tryd.underlying29 rfl IB.out ?_)
      | (with_reducible refine atC.at_bin .eql 29 ?_; refine wpList_runG (by kernel_rfl) _ (eq_run (T := 29) (s := 89) (x := 91) rfl (by kernel_rfl) (by kernel_rfl) (EM.out _) guard12) ?_)
      | (go_at_call 72; (with_reducible refine SS.out.mono ?_); rintro e w2 ⟨rfl, BB⟩
         have B2 := Lib.hid BB
         have HB2 := Lib.hid (HB.out.trans (BB.mono HB.out.size))
         clear BB
         have k6 := K6.out _ B2.out
         have j6 := J6.out _ B2.out
         have k7 := K7.out _ B2.out
         have j7 := J7.out _ B2.out
         have k8 := K8.out _ B2.out
         have j8 := J8.out _ B2.out
         have k9 := K9.out _ B2.out
         have j9 := J9.out _ B2.out
         have k10 := K10.out _ B2.out
         have j10 := J10.out _ B2.out
         have k11 := K11.out _ B2.out
         have j11 := J11.out _ B2.out))
    go_ret
    exact ⟨ret_bool hv.out.symm, HB2.out⟩
  obtain rfl : xha = yha := by simpa using hb9
  clear hb9
  by_cases h10 : xki = yki
  rotate_left
  · have hq10 : (xki == yki) = false := beq_eq_false_iff_ne.2 h10
    have hv := Lib.hid (show V = false by rw [HV.out]; simp [h10])
    clear h10
    go_enter Tryd.func38, Tryd.ntmps38
    simp only [List.append_eq, List.cons_append, List.nil_append]
    have hW2 := hW.symm
    clear hW
    go_wp2_with (first
      | go_skip
      | (with_reducible refine atC.at_load 29 88 ?_; refine pkC.wpList_load_partG (by kernel_rfl) 29 (.tmp 88) (by kernel_rfl) w.heap.size 12 (by kernel_rfl) LA _ (MA.out _ B2.out) Tryd.underlying29 rfl IA.out ?_)
      | (with_reducible refine atC.at_load 29 90 ?_; refine pkC.wpList_load_partG (by kernel_rfl) 29 (.tmp 90) (by kernel_rfl) (w.heap.size + 1) 12 (by kernel_rfl) LB _ (MB.out _ B2.out) Tryd.underlying29 rfl IB.out ?_)
      | (with_reducible refine atC.at_bin .eql 29 ?_; refine wpList_runG (by kernel_rfl) _ (eq_run (T := 29) (s := 89) (x := 91) rfl (by kernel_rfl) (by kernel_rfl) (EM.out _) guard12) ?_)
      | (go_at_call 72; (with_reducible refine SS.out.mono ?_); rintro e w2 ⟨rfl, BB⟩
         have B2 := Lib.hid BB
         have HB2 := Lib.hid (HB.out.trans (BB.mono HB.out.size))
         clear BB
         have k6 := K6.out _ B2.out
         have j6 := J6.out _ B2.out
         have k7 := K7.out _ B2.out
         have j7 := J7.out _ B2.out
         have k8 := K8.out _ B2.out
         have j8 := J8.out _ B2.out
         have k9 := K9.out _ B2.out
         have j9 := J9.out _ B2.out
         have k10 := K10.out _ B2.out
         have j10 := J10.out _ B2.out
         have k11 := K11.out _ B2.out
         have j11 := J11.out _ B2.out))
    go_ret
    exact ⟨ret_bool hv.out.symm, HB2.out⟩
  subst h10
  by_cases h11 : xni = yni
  rotate_left
  · have hq11 : (xni == yni) = false := beq_eq_false_iff_ne.2 h11
    have hv := Lib.hid (show V = false by rw [HV.out]; simp [h11])
    clear h11
    go_enter Tryd.func38, Tryd.ntmps38
    simp only [List.append_eq, List.cons_append, List.nil_append]
    have hW2 := hW.symm
    clear hW
    go_wp2_with (first
      | go_skip
      | (with_reducible refine atC.at_load 29 88 ?_; refine pkC.wpList_load_partG (by kernel_rfl) 29 (.tmp 88) (by kernel_rfl) w.heap.size 12 (by kernel_rfl) LA _ (MA.out _ B2.out) Tryd.underlying29 rfl IA.out ?_)
      | (with_reducible refine atC.at_load 29 90 ?_; refine pkC.wpList_load_partG (by kernel_rfl) 29 (.tmp 90) (by kernel_rfl) (w.heap.size + 1) 12 (by kernel_rfl) LB _ (MB.out _ B2.out) Tryd.underlying29 rfl IB.out ?_)
      | (with_reducible refine atC.at_bin .eql 29 ?_; refine wpList_runG (by kernel_rfl) _ (eq_run (T := 29) (s := 89) (x := 91) rfl (by kernel_rfl) (by kernel_rfl) (EM.out _) guard12) ?_)
      | (go_at_call 72; (with_reducible refine SS.out.mono ?_); rintro e w2 ⟨rfl, BB⟩
         have B2 := Lib.hid BB
         have HB2 := Lib.hid (HB.out.trans (BB.mono HB.out.size))
         clear BB
         have k6 := K6.out _ B2.out
         have j6 := J6.out _ B2.out
         have k7 := K7.out _ B2.out
         have j7 := J7.out _ B2.out
         have k8 := K8.out _ B2.out
         have j8 := J8.out _ B2.out
         have k9 := K9.out _ B2.out
         have j9 := J9.out _ B2.out
         have k10 := K10.out _ B2.out
         have j10 := J10.out _ B2.out
         have k11 := K11.out _ B2.out
         have j11 := J11.out _ B2.out))
    go_ret
    exact ⟨ret_bool hv.out.symm, HB2.out⟩
  subst h11
  cases bm
  · have hv := Lib.hid (show V = false by rw [HV.out]; simp [*])
    go_enter Tryd.func38, Tryd.ntmps38
    simp only [List.append_eq, List.cons_append, List.nil_append]
    have hW2 := hW.symm
    clear hW
    go_wp2_with (first
      | go_skip
      | (with_reducible refine atC.at_load 29 88 ?_; refine pkC.wpList_load_partG (by kernel_rfl) 29 (.tmp 88) (by kernel_rfl) w.heap.size 12 (by kernel_rfl) LA _ (MA.out _ B2.out) Tryd.underlying29 rfl IA.out ?_)
      | (with_reducible refine atC.at_load 29 90 ?_; refine pkC.wpList_load_partG (by kernel_rfl) 29 (.tmp 90) (by kernel_rfl) (w.heap.size + 1) 12 (by kernel_rfl) LB _ (MB.out _ B2.out) Tryd.underlying29 rfl IB.out ?_)
      | (with_reducible refine atC.at_bin .eql 29 ?_; refine wpList_runG (by kernel_rfl) _ (eq_run (T := 29) (s := 89) (x := 91) rfl (by kernel_rfl) (by kernel_rfl) (EM.out _) guard12) ?_)
      | (go_at_call 72; (with_reducible refine SS.out.mono ?_); rintro e w2 ⟨rfl, BB⟩
         have B2 := Lib.hid BB
         have HB2 := Lib.hid (HB.out.trans (BB.mono HB.out.size))
         clear BB
         have k6 := K6.out _ B2.out
         have j6 := J6.out _ B2.out
         have k7 := K7.out _ B2.out
         have j7 := J7.out _ B2.out
         have k8 := K8.out _ B2.out
         have j8 := J8.out _ B2.out
         have k9 := K9.out _ B2.out
         have j9 := J9.out _ B2.out
         have k10 := K10.out _ B2.out
         have j10 := J10.out _ B2.out
         have k11 := K11.out _ B2.out
         have j11 := J11.out _ B2.out))
    go_ret
    exact ⟨ret_bool hv.out.symm, HB2.out⟩
  have hv := Lib.hid (show V = true by rw [HV.out]; simp [*])
  go_enter Tryd.func38, Tryd.ntmps38
  simp only [List.append_eq, List.cons_append, List.nil_append]
  have hW2 := hW.symm
  clear hW
  go_wp2_with (first
    | go_skip
    | (with_reducible refine atC.at_load 29 88 ?_; refine pkC.wpList_load_partG (by kernel_rfl) 29 (.tmp 88) (by kernel_rfl) w.heap.size 12 (by kernel_rfl) LA _ (MA.out _ B2.out) Tryd.underlying29 rfl IA.out ?_)
    | (with_reducible refine atC.at_load 29 90 ?_; refine pkC.wpList_load_partG (by kernel_rfl) 29 (.tmp 90) (by kernel_rfl) (w.heap.size + 1) 12 (by kernel_rfl) LB _ (MB.out _ B2.out) Tryd.underlying29 rfl IB.out ?_)
    | (with_reducible refine atC.at_bin .eql 29 ?_; refine wpList_runG (by kernel_rfl) _ (eq_run (T := 29) (s := 89) (x := 91) rfl (by kernel_rfl) (by kernel_rfl) (EM.out _) guard12) ?_)
    | (go_at_call 72; (with_reducible refine SS.out.mono ?_); rintro e w2 ⟨rfl, BB⟩
       have B2 := Lib.hid BB
       have HB2 := Lib.hid (HB.out.trans (BB.mono HB.out.size))
       clear BB
       have k6 := K6.out _ B2.out
       have j6 := J6.out _ B2.out
       have k7 := K7.out _ B2.out
       have j7 := J7.out _ B2.out
       have k8 := K8.out _ B2.out
       have j8 := J8.out _ B2.out
       have k9 := K9.out _ B2.out
       have j9 := J9.out _ B2.out
       have k10 := K10.out _ B2.out
       have j10 := J10.out _ B2.out
       have k11 := K11.out _ B2.out
       have j11 := J11.out _ B2.out))
  go_ret
  exact ⟨ret_bool hv.out.symm, HB2.out⟩
end Go.Proofs.YtniimgbljhmcoaaDoor.opC

/-
  Regions that draw their order, in which some operations write, each waiting for the one before (as in Chn); what the writes do is told by a relation D, so that values of the others (a literal that was just laid) may speak of what D leaves alone.
-/
namespace Go.Proofs.YtniimgbljhmcoaaDoor.freeC
open Go.ChangeShapes Go.WideShapes Go.ChangeAt Go.RowKit
set_option linter.unusedVariables false
/-- nothing turned but block g -/
def OnlyAt (g : Nat) (w w' : World) : Prop := Below g w w' ∧ ∀ k, k ≠ g → w'.heap[k]? = w.heap[k]?
theorem OnlyAt.setRow (g : Nat) (w : World) (cs : Array Value) : OnlyAt g w (w.setRow g cs) := ⟨⟨rfl, rfl, rfl, by simp, fun k hk => setRow_other _ _ _ _ (by omega)⟩, fun k hk => setRow_other _ _ _ _ hk⟩
theorem OnlyAt.refl (g : Nat) (w : World) : OnlyAt g w w := ⟨Below.refl _ _, fun _ _ => rfl⟩
/-- a row that is not g stands -/
theorem keep_row {g k : Nat} {w w' : World} {o : Obj} (hd : Below w.heap.size w w' ∨ OnlyAt g w w') (hk : k ≠ g) (h : w.heap[k]? = some o) : w'.heap[k]? = some o := by
  have hl : k < w.heap.size := by
    rcases Nat.lt_or_ge k w.heap.size with h' | h'
    · exact h'
    · rw [Array.getElem?_eq_none h'] at h; cases h
  rcases hd with hd | hd
  · rw [hd.block k hl]; exact h
  · rw [hd.2 k hk]; exact h
/-- what lies below g stands -/
theorem keep_below {g B : Nat} {w0 w w' : World} (hd : Below w.heap.size w w' ∨ OnlyAt g w w') (hB : B ≤ g) (hw : B ≤ w.heap.size) (h : Below B w0 w) : Below B w0 w' := by
  rcases hd with hd | hd
  · exact h.trans (hd.mono hw)
  · exact h.trans (hd.1.mono hB)
section
variable {P : Program} {L : List Oper} {Q : Exit → Act → World → Prop}
/-- what is asked of an operation: of one that is no part of the chain C, that it makes memory alone; of the chain's p-th, that it leads from R p to R (p + 1) -/
def StepD (P : Program) (L : List Oper) (Q : Exit → Act → World → Prop) (tab : List (Option Nat)) (a : Act) (B : Nat) (D : World → World → Prop) (C : List Nat) (G : World → Prop) (V : Nat → Value → World → Prop) (R : Nat → (Nat → Value) → World → Prop) (i : Nat) (o : Oper) : Prop :=
  ∀ (m : Nat → Bool) us w, B ≤ w.heap.size → G w → (∀ j, j ∉ C → m j = true → V j (us j) w) → doneB o m = true →
    (i ∉ C → if Region.wanted o (yielded L.toArray (frame tab a us).tmps) then o.wp P (frame tab a us) w (fun a' w' => ∃ v, a' = (frame tab a us).put o.dst v ∧ Below w.heap.size w w' ∧ V i v w') Q else V i undef w) ∧
    (∀ p, C[p]? = some i → R p us w → if Region.wanted o (yielded L.toArray (frame tab a us).tmps) then o.wp P (frame tab a us) w (fun a' w' => ∃ v, a' = (frame tab a us).put o.dst v ∧ (D w w' ∧ Below B w w') ∧ R (p + 1) (upd us i v) w') Q else R (p + 1) (upd us i undef) w)
theorem wp_region_chd {id : Nat} {a : Act} {w : World} (hm : P.follows .mixedOrders = true) (tab : List (Option Nat)) (hb : backE L = true) (ht : slots tab L = true) (hl : tab.length = a.tmps.size)
    (us0 : Nat → Value) (ha : frame tab a us0 = a) (B : Nat) (D : World → World → Prop) (C : List Nat) (hC : links L C = true) (hnd : C.Nodup) (hin : ∀ x ∈ C, x < L.length)
    (G : World → Prop) (V : Nat → Value → World → Prop) (R : Nat → (Nat → Value) → World → Prop) (hB : B ≤ w.heap.size) (hG : G w.drew) (h0 : R 0 us0 w.drew)
    (hkG : ∀ w w', B ≤ w.heap.size → (Below w.heap.size w w' ∨ D w w') → G w → G w') (hkV : ∀ i v w w', B ≤ w.heap.size → (Below w.heap.size w w' ∨ D w w') → V i v w → V i v w')
    (hkR : ∀ k us us' w w', (∀ x ∈ C, us' x = us x) → B ≤ w.heap.size → Below w.heap.size w w' → R k us w → R k us' w')
    (hstep : AllFrom (StepD P L Q tab a B D C G V R) 0 L)
    (hend : ∀ us w, B ≤ w.heap.size → G w → (∀ i, i < L.length → i ∉ C → V i (us i) w) → R C.length us w → Q .normal (frame tab a us) w) : (Code.region id L.toArray true).wp P Q a w := by
  refine wp_region_free hm tab hb ht hl us0 ha (fun m us w => B ≤ w.heap.size ∧ G w ∧ (∀ j, j ∉ C → m j = true → V j (us j) w) ∧ ∃ k, k ≤ C.length ∧ (∀ j x, C[j]? = some x → (m x = true ↔ j < k)) ∧ R k us w)
    ⟨(by simpa using hB), hG, (fun j _ h => by cases h), 0, Nat.zero_le _, (fun j x _ => by simp), h0⟩ ?_ ?_
  · intro i o ho m us w' ⟨hb', hg, hv, k, hk, hcm, hr⟩ hmi hd
    have hs := all_from L 0 hstep i o ho m us w' hb' hg hv hd
    rw [Nat.zero_add] at hs
    by_cases hi : i ∈ C
    · obtain ⟨p, hp⟩ := List.getElem?_of_mem hi
      have hkp : k = p := by
        have h1 : ¬ p < k := fun h => by rw [(hcm p i hp).2 h] at hmi; cases hmi
        rcases Nat.eq_zero_or_pos p with h2 | h2
        · omega
        · obtain ⟨q, rfl⟩ : ∃ q, p = q + 1 := ⟨p - 1, by omega⟩
          have hq : q < C.length := by have := (List.getElem?_eq_some_iff.1 hp).1; omega
          have e := List.getElem?_eq_getElem hq
          have := (hcm q _ e).1 (links_at hC q _ i o e hp ho m hd)
          omega
      subst hkp
      have hs2 := hs.2 k hp hr
      have hset : ∀ v w'', (w'' = w' ∨ D w' w'') → Below B w' w'' → R (k + 1) (upd us i v) w'' → B ≤ w''.heap.size ∧ G w'' ∧ (∀ j, j ∉ C → upd m i true j = true → V j (upd us i v j) w'') ∧ ∃ k, k ≤ C.length ∧ (∀ j x, C[j]? = some x → (upd m i true x = true ↔ j < k)) ∧ R k (upd us i v) w'' := fun v w'' hd2 hb2 hr2 => by
        refine ⟨Nat.le_trans hb' hb2.size, (by rcases hd2 with rfl | hd2
                                               · exact hg
                                               · exact hkG _ _ hb' (.inr hd2) hg), fun j hj hm' => ?_, k + 1, ?_, fun j x hx => ?_, hr2⟩
        · have hji : j ≠ i := fun e => hj (e ▸ hi)
          rw [upd_other _ _ hji] at hm' ⊢
          rcases hd2 with rfl | hd2
          · exact hv j hj hm'
          · exact hkV _ _ _ _ hb' (.inr hd2) (hv j hj hm')
        · have := (List.getElem?_eq_some_iff.1 hp).1; omega
        · by_cases hx2 : x = i
          · subst hx2
            have hjk : j = k := nodup_at hnd hx hp
            rw [upd_same]; simp [hjk]
          · rw [upd_other _ _ hx2, hcm j x hx]
            have hjk : j ≠ k := fun e => by rw [e, hp] at hx; exact hx2 (Option.some.inj hx).symm
            omega
      split
      · rename_i hw
        rw [if_pos hw] at hs2
        refine Oper.wp_mono (fun a2 w2 h2 => ?_) hs2
        obtain ⟨v, ha, ⟨hd2, hb2⟩, hr2⟩ := h2
        exact ⟨v, ha, hset v w2 (.inr hd2) hb2 hr2⟩
      · rename_i hw
        rw [if_neg hw] at hs2
        exact hset undef w' (.inl rfl) (Below.refl _ _) hs2
    · have hs1 := hs.1 hi
      have hset : ∀ v w'', Below w'.heap.size w' w'' → V i v w'' → B ≤ w''.heap.size ∧ G w'' ∧ (∀ j, j ∉ C → upd m i true j = true → V j (upd us i v j) w'') ∧ ∃ k, k ≤ C.length ∧ (∀ j x, C[j]? = some x → (upd m i true x = true ↔ j < k)) ∧ R k (upd us i v) w'' := fun v w'' hb2 hv2 => by
        have hb3 := hb2.mono hb'
        refine ⟨Nat.le_trans hb' hb2.size, hkG _ _ hb' (.inl hb2) hg, fun j hj hm' => ?_, k, hk, fun j x hx => ?_, hkR k us (upd us i v) w' w'' (fun x hx => ?_) hb' hb2 hr⟩
        · by_cases hji : j = i
          · subst hji; rw [upd_same]; exact hv2
          · rw [upd_other _ _ hji] at hm' ⊢
            exact hkV _ _ _ _ hb' (.inl hb2) (hv j hj hm')
        · have hxi : x ≠ i := fun e => hi (e ▸ List.mem_of_getElem? hx)
          rw [upd_other _ _ hxi]; exact hcm j x hx
        · have hxi : x ≠ i := fun e => hi (e ▸ hx)
          rw [upd_other _ _ hxi]
      split
      · rename_i hw
        rw [if_pos hw] at hs1
        refine Oper.wp_mono (fun a2 w2 h2 => ?_) hs1
        obtain ⟨v, ha, hb2, hv2⟩ := h2
        exact ⟨v, ha, hset v w2 hb2 hv2⟩
      · rename_i hw
        rw [if_neg hw] at hs1
        exact hset undef w' (Below.refl _ _) hs1
  · intro m us w' hm' ⟨hb', hg, hv, k, hk, hcm, hr⟩
    have hkl : k = C.length := by
      rcases Nat.lt_or_ge k C.length with h | h
      · have e := List.getElem?_eq_getElem h
        have := (hcm k _ e).1 (hm' _ (hin _ (List.getElem_mem h)))
        omega
      · omega
    subst hkl
    exact hend us w' hb' hg (fun i hi hc => hv i hc (hm' i hi)) hr
variable {o : Oper} {a : Act} {tab : List (Option Nat)} {B : Nat} {D : World → World → Prop} {C : List Nat} {G : World → Prop} {V : Nat → Value → World → Prop} {R : Nat → (Nat → Value) → World → Prop} {i : Nat}
/-- an operation that only makes memory -/
theorem stepD_val (need : List Nat) (hn : needs o need = true) (hc : (need.all fun j => !C.contains j) = true) (hi : C.contains i = false) (hg : o.guard = none)
    (h : ∀ us w, B ≤ w.heap.size → G w → (∀ j, j ∈ need → V j (us j) w) → o.wp P (frame tab a us) w (fun a' w' => ∃ v, a' = (frame tab a us).put o.dst v ∧ Below w.heap.size w w' ∧ V i v w') Q) : StepD P L Q tab a B D C G V R i o := by
  intro m us w hB hG hV hd
  have hiC : i ∉ C := fun e => by rw [List.contains_iff_mem.2 e] at hi; cases hi
  refine ⟨fun _ => ?_, fun p hp => absurd (List.mem_of_getElem? hp) hiC⟩
  rw [if_pos (show Region.wanted o (yielded L.toArray (frame tab a us).tmps) = true by simp [Region.wanted, hg])]
  exact h us w hB hG fun j hj => hV j (fun e => by have h1 := List.all_eq_true.1 hc j hj; rw [List.contains_iff_mem.2 e] at h1; cases h1) (need_ok hn hd j hj)
/-- .. behind a guard that says b, as is known -/
theorem stepD_guard (need : List Nat) (hn : needs o need = true) (hc : (need.all fun j => !C.contains j) = true) (hi : C.contains i = false) {j t : Nat} {b : Bool} (hg : o.guard = some (j, b)) (hj : j ∈ need) (hL : (L[j]?).bind (·.dst) = some t) (hl : tab.length = a.tmps.size) (ht : (tab[t]?).join = some j)
    (hv : ∀ v w, V j v w → v = .bool b)
    (h : ∀ us w, B ≤ w.heap.size → G w → (∀ j, j ∈ need → V j (us j) w) → o.wp P (frame tab a us) w (fun a' w' => ∃ v, a' = (frame tab a us).put o.dst v ∧ Below w.heap.size w w' ∧ V i v w') Q) : StepD P L Q tab a B D C G V R i o := by
  intro m us w hB hG hV hd
  have hiC : i ∉ C := fun e => by rw [List.contains_iff_mem.2 e] at hi; cases hi
  have hV2 : ∀ j, j ∈ need → V j (us j) w := fun j hj => hV j (fun e => by have h1 := List.all_eq_true.1 hc j hj; rw [List.contains_iff_mem.2 e] at h1; cases h1) (need_ok hn hd j hj)
  refine ⟨fun _ => ?_, fun p hp => absurd (List.mem_of_getElem? hp) hiC⟩
  have hy := yield_at (L := L) (us := us) hl hL ht (hv _ _ (hV2 j hj))
  rw [if_pos (show Region.wanted o (yielded L.toArray (frame tab a us).tmps) = true by simp [Region.wanted, hg, hy])]
  exact h us w hB hG hV2
/-- .. that is not wanted -/
theorem stepD_skip (need : List Nat) (hn : needs o need = true) (hc : (need.all fun j => !C.contains j) = true) (hi : C.contains i = false) {j t : Nat} {b : Bool} (hg : o.guard = some (j, b)) (hj : j ∈ need) (hL : (L[j]?).bind (·.dst) = some t) (hl : tab.length = a.tmps.size) (ht : (tab[t]?).join = some j)
    (hv : ∀ v w, V j v w → v = .bool !b) (h : ∀ w, V i undef w) : StepD P L Q tab a B D C G V R i o := by
  intro m us w hB hG hV hd
  have hiC : i ∉ C := fun e => by rw [List.contains_iff_mem.2 e] at hi; cases hi
  have hV2 : ∀ j, j ∈ need → V j (us j) w := fun j hj => hV j (fun e => by have h1 := List.all_eq_true.1 hc j hj; rw [List.contains_iff_mem.2 e] at h1; cases h1) (need_ok hn hd j hj)
  refine ⟨fun _ => ?_, fun p hp => absurd (List.mem_of_getElem? hp) hiC⟩
  have hy := yield_at (L := L) (us := us) hl hL ht (hv _ _ (hV2 j hj))
  rw [if_neg (by simp [Region.wanted, hg, hy])]
  exact h w
/-- the chain's p-th -/
theorem stepD_chain (p : Nat) (hp : C[p]? = some i) (hnd : C.Nodup) (need : List Nat) (hn : needs o need = true) (hc : (need.all fun j => !C.contains j) = true) (hg : o.guard = none)
    (h : ∀ us w, B ≤ w.heap.size → G w → (∀ j, j ∈ need → V j (us j) w) → R p us w → o.wp P (frame tab a us) w (fun a' w' => ∃ v, a' = (frame tab a us).put o.dst v ∧ (D w w' ∧ Below B w w') ∧ R (p + 1) (upd us i v) w') Q) : StepD P L Q tab a B D C G V R i o := by
  intro m us w hB hG hV hd
  refine ⟨fun hi => absurd (List.mem_of_getElem? hp) hi, fun q hq hr => ?_⟩
  have hqp : q = p := nodup_at hnd hq hp
  subst hqp
  rw [if_pos (show Region.wanted o (yielded L.toArray (frame tab a us).tmps) = true by simp [Region.wanted, hg])]
  exact h us w hB hG (fun j hj => hV j (fun e => by have h1 := List.all_eq_true.1 hc j hj; rw [List.contains_iff_mem.2 e] at h1; cases h1) (need_ok hn hd j hj)) hr
/-- .. behind a guard that says b, as is known -/
theorem stepD_chainG (p : Nat) (hp : C[p]? = some i) (hnd : C.Nodup) (need : List Nat) (hn : needs o need = true) (hc : (need.all fun j => !C.contains j) = true) {j t : Nat} {b : Bool} (hg : o.guard = some (j, b)) (hj : j ∈ need) (hL : (L[j]?).bind (·.dst) = some t) (hl : tab.length = a.tmps.size) (ht : (tab[t]?).join = some j)
    (hv : ∀ v w, V j v w → v = .bool b)
    (h : ∀ us w, B ≤ w.heap.size → G w → (∀ j, j ∈ need → V j (us j) w) → R p us w → o.wp P (frame tab a us) w (fun a' w' => ∃ v, a' = (frame tab a us).put o.dst v ∧ (D w w' ∧ Below B w w') ∧ R (p + 1) (upd us i v) w') Q) : StepD P L Q tab a B D C G V R i o := by
  intro m us w hB hG hV hd
  have hV2 : ∀ j, j ∈ need → V j (us j) w := fun j hj => hV j (fun e => by have h1 := List.all_eq_true.1 hc j hj; rw [List.contains_iff_mem.2 e] at h1; cases h1) (need_ok hn hd j hj)
  refine ⟨fun hi => absurd (List.mem_of_getElem? hp) hi, fun q hq hr => ?_⟩
  have hqp : q = p := nodup_at hnd hq hp
  subst hqp
  have hy := yield_at (L := L) (us := us) hl hL ht (hv _ _ (hV2 j hj))
  rw [if_pos (show Region.wanted o (yielded L.toArray (frame tab a us).tmps) = true by simp [Region.wanted, hg, hy])]
  exact h us w hB hG hV2 hr
end
end Go.Proofs.YtniimgbljhmcoaaDoor.freeC
