/-
  2 texts of a proof, joined.
-/
import Derived.Test.YtbhcpbihbecphaaMg13
import Derived.Test.YtbhcpbihbecphaaMg8
import Derived.Test.YtbhcpbihbecphaaMg20
import Derived.Test.YtbhcpbihbecphaaMg15
import Derived.Test.YtbhcpbihbecphaaMg19
import Derived.Test.YtbhcpbihbecphaaMg24
import Derived.Laws.BitsAllLaws
import Derived.Test.YtbhcpbihbecphaaMg3

/-
  A piece's header, and a packet's bytes: the program's Lay.
-/
namespace Go.Proofs.Ytbhcpbihbecphaa.sxC
open Go.ChangeShapes Go.WideShapes Go.ChangeAt Go.RowKit
open Go.Proofs.Ytbhcpbihbecphaa.memC Go.Proofs.Ytbhcpbihbecphaa.genC Go.Proofs.Ytbhcpbihbecphaa.butC Go.Proofs.Ytbhcpbihbecphaa.freeC Go.Proofs.Ytbhcpbihbecphaa.adC Go.Proofs.Ytbhcpbihbecphaa.pkC
set_option linter.unusedVariables false
theorem parts_row4 {w : World} {q : Nat} {A A' A2 A3 : Option Addr} {n c n' c' n2 c2 n3 c3 : Nat} {bs bs' bs2 bs3 : List Int} {T : TypeId} (hr : w.heap[q]? = some (.cells #[.slice A n c, .slice A' n' c', .slice A2 n2 c2, .slice A3 n3 c3] T (0, 0)))
    (h : chkC.PartAt w w.heap.size ⟨A, n, c, bs⟩) (h' : chkC.PartAt w w.heap.size ⟨A', n', c', bs'⟩) (h2 : chkC.PartAt w w.heap.size ⟨A2, n2, c2, bs2⟩) (h3 : chkC.PartAt w w.heap.size ⟨A3, n3, c3, bs3⟩) :
    chkC.Parts w w.heap.size (some ⟨q, 0, none⟩) [⟨A, n, c, bs⟩, ⟨A', n', c', bs'⟩, ⟨A2, n2, c2, bs2⟩, ⟨A3, n3, c3, bs3⟩] := by
  refine ⟨fun _ => ⟨_, 0, rfl, lt_of_row hr, fun i hi => ?_⟩, fun p hp => ?_⟩
  · rw [cell_of_row w q (0 + i) _ _ (0, 0) hr]
    simp only [List.length_cons, List.length_nil] at hi
    match i, hi with
    | 0, _ => rfl
    | 1, _ => rfl
    | 2, _ => rfl
    | 3, _ => rfl
  · rcases List.mem_cons.1 hp with rfl | hp
    · exact h
    · rcases List.mem_cons.1 hp with rfl | hp
      · exact h'
      · rcases List.mem_cons.1 hp with rfl | hp
        · exact h2
        · obtain rfl := List.mem_singleton.1 hp
          exact h3
theorem parts_row5 {w : World} {q : Nat} {A A' A2 A3 A4 : Option Addr} {n c n' c' n2 c2 n3 c3 n4 c4 : Nat} {bs bs' bs2 bs3 bs4 : List Int} {T : TypeId} (hr : w.heap[q]? = some (.cells #[.slice A n c, .slice A' n' c', .slice A2 n2 c2, .slice A3 n3 c3, .slice A4 n4 c4] T (0, 0)))
    (h : chkC.PartAt w w.heap.size ⟨A, n, c, bs⟩) (h' : chkC.PartAt w w.heap.size ⟨A', n', c', bs'⟩) (h2 : chkC.PartAt w w.heap.size ⟨A2, n2, c2, bs2⟩) (h3 : chkC.PartAt w w.heap.size ⟨A3, n3, c3, bs3⟩) (h4 : chkC.PartAt w w.heap.size ⟨A4, n4, c4, bs4⟩) :
    chkC.Parts w w.heap.size (some ⟨q, 0, none⟩) [⟨A, n, c, bs⟩, ⟨A', n', c', bs'⟩, ⟨A2, n2, c2, bs2⟩, ⟨A3, n3, c3, bs3⟩, ⟨A4, n4, c4, bs4⟩] := by
  refine ⟨fun _ => ⟨_, 0, rfl, lt_of_row hr, fun i hi => ?_⟩, fun p hp => ?_⟩
  · rw [cell_of_row w q (0 + i) _ _ (0, 0) hr]
    simp only [List.length_cons, List.length_nil] at hi
    match i, hi with
    | 0, _ => rfl
    | 1, _ => rfl
    | 2, _ => rfl
    | 3, _ => rfl
    | 4, _ => rfl
  · rcases List.mem_cons.1 hp with rfl | hp
    · exact h
    · rcases List.mem_cons.1 hp with rfl | hp
      · exact h'
      · rcases List.mem_cons.1 hp with rfl | hp
        · exact h2
        · rcases List.mem_cons.1 hp with rfl | hp
          · exact h3
          · obtain rfl := List.mem_singleton.1 hp
            exact h4
theorem loadp_run {P : Program} {fr : Act} {o : Oper} {w : World} {T : TypeId} {s : Tmp} {g q : Nat} (ho : o.op = .load T (.tmp s)) (hs : fr.tmps[s]?.getD undef = .pointer (some ⟨g, q, none⟩)) (l : List Value) (d : TypeDesc) (hc : ∀ j v, l[j]? = some v → w.cell? ⟨g, q + j, none⟩ = some v)
    (hu : P.underlying T = some d) (hd : (match d with | .struct _ | .array _ _ => true | _ => false) = true) (hi : (P.info? T).map (·.size) = some l.length) : (execOp fr.eval o).run P w = .ok (.value (.agg l.toArray)) w := by
  unfold execOp
  have hs' : fr.eval (.tmp s) = .pointer (some ⟨g, q, none⟩) := by simpa only [Act.eval, Array.getD_eq_getD_getElem?] using hs
  simp only [ho, hs', Instr.loadAt, Instr.sureAddr, Sem.run_bind, Sem.run_pure, Result.andThen_ok, partC.run_load_part w g q T l d hc hu hd hi]
theorem or_one {f : Int} (h0 : 0 ≤ f) (h1 : f ≤ 65535) (h8 : f % 8 = 0) : bits .or .u64 f 1 = f + 1 := by
  rw [Go.u64_or f 1 h0 (by omega) (by decide) (by decide)]
  have e : f.toNat = (f.toNat / 8) <<< 3 := by rw [Nat.shiftLeft_eq]; omega
  have e1 : ((1 : Int)).toNat = 1 := rfl
  rw [e1, e, ← Nat.shiftLeft_add_eq_or_of_lt (by decide : 1 < 2 ^ 3), Nat.shiftLeft_eq]
  omega
theorem put2 {bs : List Int} {x : Int} (h0 : 0 ≤ x) (h1 : x ≤ 65535) : octC.putL bs 2 [x] = bs ++ nb2 x := by
  unfold octC.putL nb2
  simp only [List.flatMap_cons, List.flatMap_nil, List.append_nil]
  unfold octC.numL octC.numL octC.numL octC.byteAt
  have e1 : x / 2 ^ (8 * 1) % 256 = x / 256 := by show x / 256 % 256 = x / 256; omega
  have e2 : x / 2 ^ (8 * 0) % 256 = x % 256 := by simp
  rw [e1, e2]
theorem put4 {bs : List Int} {x : Int} (h0 : 0 ≤ x) (h1 : x ≤ 4294967295) : octC.putL bs 4 [x] = bs ++ nb4 x := by
  unfold octC.putL nb4
  simp only [List.flatMap_cons, List.flatMap_nil, List.append_nil]
  unfold octC.numL octC.numL octC.numL octC.numL octC.numL octC.byteAt
  have e3 : x / 2 ^ (8 * 3) % 256 = x / 16777216 := by show x / 16777216 % 256 = _; omega
  have e2 : x / 2 ^ (8 * 2) % 256 = x / 65536 % 256 := by rfl
  have e1 : x / 2 ^ (8 * 1) % 256 = x / 256 % 256 := by rfl
  have e0 : x / 2 ^ (8 * 0) % 256 = x % 256 := by simp
  rw [e3, e2, e1, e0]
/-- bytes of the call's own -/
def OwnN (w : World) (N : Nat) (bs : List Int) (e : Ending) (w' : World) : Prop := ∃ A c, e = .returned (.slice A N c) ∧ Own .u8 5 w' w.heap.size (.slice A N c) bs ∧ Below w.heap.size w w'
def chV (g0 B : Nat) (pr F id : Int) (T1 T2 : List Int) : Nat → Value → World → Prop
  | 0, v, _ => v = .pointer (some ⟨g0, 34, none⟩)
  | 1, v, _ => v = .int .u8 pr
  | 2, v, w => ∃ q, v = .slice (some ⟨q, 0, none⟩) 2 2 ∧ w.heap[q]? = some (.cells #[.int .u8 pr, .int .u8 0] 5 (0, 0))
  | 3, v, _ => v = .int .u64 F
  | 4, v, w => ∃ q, v = .slice (some ⟨q, 0, none⟩) 1 1 ∧ w.heap[q]? = some (.cells #[.int .u64 F] 50 (0, 0))
  | 5, v, w => ∃ A' c', v = .slice A' 4 c' ∧ Own .u8 5 w B (.slice A' 4 c') T1
  | 6, v, _ => v = .pointer (some ⟨g0, 36, none⟩)
  | 7, v, _ => v = .int .u32 id
  | 8, v, _ => v = .int .u64 id
  | 9, v, w => ∃ q, v = .slice (some ⟨q, 0, none⟩) 1 1 ∧ w.heap[q]? = some (.cells #[.int .u64 id] 50 (0, 0))
  | 10, v, w => ∃ A' c', v = .slice A' 8 c' ∧ Own .u8 5 w B (.slice A' 8 c') T2
  | 11, v, w => ∃ A' c', v = .slice A' 8 c' ∧ Own .u8 5 w B (.slice A' 8 c') T2
  | _, _, _ => True
theorem chV.keep (g0 B : Nat) (pr F id : Int) (T1 T2 : List Int) (i : Nat) (v : Value) (w w' : World) (hb : Below w.heap.size w w') (h : chV g0 B pr F id T1 T2 i v w) : chV g0 B pr F id T1 T2 i v w' := by
  by_cases e2 : i = 2
  · subst e2
    obtain ⟨q, h1, h2⟩ := h
    exact ⟨q, h1, by rw [hb.block _ (lt_of_row h2)]; exact h2⟩
  by_cases e4 : i = 4
  · subst e4
    obtain ⟨q, h1, h2⟩ := h
    exact ⟨q, h1, by rw [hb.block _ (lt_of_row h2)]; exact h2⟩
  by_cases e5 : i = 5
  · subst e5
    obtain ⟨A', c', h1, h2⟩ := h
    exact ⟨A', c', h1, h2.below hb⟩
  by_cases e9 : i = 9
  · subst e9
    obtain ⟨q, h1, h2⟩ := h
    exact ⟨q, h1, by rw [hb.block _ (lt_of_row h2)]; exact h2⟩
  by_cases e10 : i = 10
  · subst e10
    obtain ⟨A', c', h1, h2⟩ := h
    exact ⟨A', c', h1, h2.below hb⟩
  by_cases e11 : i = 11
  · subst e11
    obtain ⟨A', c', h1, h2⟩ := h
    exact ⟨A', c', h1, h2.below hb⟩
  unfold chV at h ⊢
  split at h <;> first | exact h | exact absurd rfl (by assumption)
def chT : List (Option Nat) := [none, none, some 11, none, none, none, none, none, none, none, none, some 0, some 1, some 2, some 3, some 4, some 5, some 6, some 7, some 8, some 9, some 10]
set_option maxRecDepth 100000 in
set_option maxHeartbeats 4000000 in
theorem chead_any (p : Pkt) (A : Option Addr) (n c : Nat) (w : World) (hp : p.Ok) (h0 : 0 ≤ p.off) (h8 : p.off % 8 = 0) (h1 : p.off ≤ 65527) (hw : p.whole = false) :
    Calls Try.prog 22 #[.agg (pktV p A n c)] w (OwnN w 8 (cutL p)) := by
  obtain ⟨Wr, hW⟩ : ∃ W, W = w.alloc (.cells (pktV p A n c) 28) := ⟨_, rfl⟩
  have R0 := Lib.hid (show Wr.heap[w.heap.size]? = some (.cells (pktV p A n c) 28 (0, 0)) by rw [hW]; exact heap_alloc_new w _)
  have HBW := Lib.hid (show Below w.heap.size w Wr by rw [hW]; exact alloc_below _ _)
  have c0 := pkC hp A n c
  have KR := Lib.hid (fun (w' : World) (h : Gr Wr w') => (show w'.heap[w.heap.size]? = some (.cells (pktV p A n c) 28 (0, 0)) from Gr.row h R0.out))
  have K34 := Lib.hid (fun w' h => PkC.cell (KR.out w' h) c0.proto)
  have K36 := Lib.hid (fun w' h => PkC.cell (KR.out w' h) c0.id)
  have k38 := PkC.cell R0.out c0.more
  have k39 := PkC.cell R0.out c0.off
  have hi := hp.id
  have hpr := hp.proto
  unfold Byte at hpr
  have Y2 := Lib.hid (show ∀ x ∈ [p.proto, 0], Byte x by
    intro x hx
    simp only [List.mem_cons, List.not_mem_nil, or_false] at hx
    rcases hx with rfl | rfl
    · exact hpr
    · unfold Byte; decide)
  have BB : 0 ≤ bitsZ p ∧ bitsZ p ≤ 65535 := by unfold bitsZ; split <;> omega
  obtain ⟨T1, hT1⟩ : ∃ T, T = [p.proto, 0] ++ nb2 (bitsZ p) := ⟨_, rfl⟩
  obtain ⟨T2, hT2⟩ : ∃ T, T = T1 ++ nb4 p.id := ⟨_, rfl⟩
  have ET1 := Lib.hid (show octC.putL [p.proto, 0] 2 [bitsZ p] = T1 by rw [hT1]; exact put2 BB.1 BB.2)
  have ET2 := Lib.hid (show octC.putL T1 4 [p.id] = T2 by rw [hT2]; exact put4 hi.1 hi.2)
  have LT1 := Lib.hid (show T1.length = 4 by rw [hT1]; rfl)
  have LT2 := Lib.hid (show T2.length = 8 by rw [hT2, hT1]; rfl)
  have YT1 := Lib.hid (show ∀ x ∈ T1, Byte x by
    intro x hx
    rw [hT1] at hx
    rcases List.mem_append.1 hx with h | h
    · exact Y2.out x h
    · exact nb2_byte BB.1 BB.2 x h)
  have VI := Lib.hid (show IntKind.u64.wrap p.id = p.id from IntWalk.u64_in _ (by omega))
  have ev : cutL p = T2 := by unfold cutL; rw [hw, if_neg (by decide), hT2, hT1, List.append_assoc]
  rw [ev]
  have hF : bitsZ p = if p.more then p.off + 1 else p.off := rfl
  obtain ⟨F, hFF⟩ : ∃ F, F = bitsZ p := ⟨_, rfl⟩
  rw [← hFF] at ET1 hF BB
  have LBW := Lib.hid (show w.heap.size ≤ Wr.heap.size from HBW.out.size)
  obtain ⟨B, hB⟩ : ∃ B, B = Wr.heap.size := ⟨_, rfl⟩
  have LB := Lib.hid (Nat.le_of_eq hB)
  have LBW := Lib.hid (show w.heap.size ≤ B by rw [hB]; exact HBW.out.size)
  have vo := IntWalk.u64_in p.off (by omega)
  have oo := or_one h0 (by omega) h8
  generalize p.id = id at *
  generalize p.proto = pr at *
  generalize p.off = of at *
  generalize p.more = mo at *
  generalize pktV p A n c = CP at *
  clear hi hpr hT1 hT2 ev hFF h0 h8 h1 hw hp c0 BB hB
  cases mo
  · obtain rfl : F = of := by simpa using hF
    clear hF oo
    go_enter Try.func22, Try.ntmps22
    go_upto_region 1 with fail
    rw [← hW]
    clear hW
    go_upto_region 4 with fail
    clear k38 k39 vo R0 KR
    refine with_act fun a0 ha0 => ?_
    have hl : chT.length = a0.tmps.size := by rw [ha0]; rfl
    have k1 : a0.tmps[1]?.getD undef = .pointer (some ⟨w.heap.size, 0, none⟩) := by rw [ha0]; rfl
    have k3 : a0.tmps[3]?.getD undef = .int .u64 F := by rw [ha0]; rfl
    refine wp_region_vals (by kernel_rfl) chT (by kernel_rfl) (by kernel_rfl) hl (fun i => if i = 11 then .slice none 0 0 else undef) (by rw [ha0]; rfl) (Gr Wr) (chV w.heap.size B pr F id T1 T2) (gr_drew _) (chV.keep _ _ _ _ _ _ _) ⟨?_, ?_, ?_, ?_, ?_, ?_, ?_, ?_, ?_, ?_, ?_, ?_, trivial⟩ ?_
    · refine step_plain [] (by kernel_rfl) rfl fun us w' hG hV => ?_
      have o1 := (frame_old2 (us := us) (a := a0) (show (chT[1]?).join = none from rfl)).trans k1
      generalize frame chT a0 us = fr at *
      exact val_ok (v := .pointer (some ⟨w.heap.size, 34, none⟩)) (w' := w') (by go_simp) hG (Below.refl _ _) rfl
    · refine step_plain [0] (by kernel_rfl) rfl fun us w' hG hV => ?_
      have e0 : us 0 = .pointer (some ⟨w.heap.size, 34, none⟩) := hV 0 (by simp)
      have v0 := (frame_at2 (us := us) hl (show (chT[11]?).join = some 0 from rfl)).trans e0
      have hc := K34.out w' hG
      generalize frame chT a0 us = fr at *
      exact val_ok (v := .int .u8 pr) (w' := w') (by go_simp) hG (Below.refl _ _) rfl
    · refine step_plain [1] (by kernel_rfl) rfl fun us w' hG hV => ?_
      have e1 : us 1 = .int .u8 pr := hV 1 (by simp)
      have v1 := (frame_at2 (us := us) hl (show (chT[12]?).join = some 1 from rfl)).trans e1
      generalize frame chT a0 us = fr at *
      exact val_ok (v := .slice (some ⟨w'.heap.size, 0, none⟩) 2 2) (w' := w'.alloc (.cells #[.int .u8 pr, .int .u8 0] 5)) (by go_simp) (hG.below (alloc_below _ _)) (alloc_below _ _) ⟨_, rfl, heap_alloc_new _ _⟩
    · refine step_plain [] (by kernel_rfl) rfl fun us w' hG hV => ?_
      have o3 := (frame_old2 (us := us) (a := a0) (show (chT[3]?).join = none from rfl)).trans k3
      generalize frame chT a0 us = fr at *
      exact val_ok (v := .int .u64 F) (w' := w') (by go_simp) hG (Below.refl _ _) rfl
    · refine step_plain [3] (by kernel_rfl) rfl fun us w' hG hV => ?_
      have e3 : us 3 = .int .u64 F := hV 3 (by simp)
      have v3 := (frame_at2 (us := us) hl (show (chT[14]?).join = some 3 from rfl)).trans e3
      generalize frame chT a0 us = fr at *
      exact val_ok (v := .slice (some ⟨w'.heap.size, 0, none⟩) 1 1) (w' := w'.alloc (.cells #[.int .u64 F] 50)) (by go_simp) (hG.below (alloc_below _ _)) (alloc_below _ _) ⟨_, rfl, heap_alloc_new _ _⟩
    · refine step_plain [2, 4] (by kernel_rfl) rfl fun us w' hG hV => ?_
      obtain ⟨q2, e2, r2⟩ := (show ∃ q, us 2 = .slice (some ⟨q, 0, none⟩) 2 2 ∧ w'.heap[q]? = some (.cells #[.int .u8 pr, .int .u8 0] 5 (0, 0)) from hV 2 (by simp))
      have v2 := (frame_at2 (us := us) hl (show (chT[13]?).join = some 2 from rfl)).trans e2
      obtain ⟨q4, e4, r4⟩ := (show ∃ q, us 4 = .slice (some ⟨q, 0, none⟩) 1 1 ∧ w'.heap[q]? = some (.cells #[.int .u64 F] 50 (0, 0)) from hV 4 (by simp))
      have v4 := (frame_at2 (us := us) hl (show (chT[15]?).join = some 4 from rfl)).trans e4
      generalize frame chT a0 us = fr at *
      exact call_ok (f := 23) (args := #[.slice (some ⟨q2, 0, none⟩) 2 2, .int .i64 2, .slice (some ⟨q4, 0, none⟩) 1 1]) (by go_simp) ((kdC.put_key (bs := [pr, 0]) (ns := [F]) 2 2 4 T1 rfl (by decide) ⟨row_nums .u8 r2 rfl 2 rfl, Y2.out, (by decide), (by decide)⟩ (row_nums .u64 r4 rfl 1 rfl) (by decide) (by decide) ET1.out LT1.out).mono fun e w'' ⟨A', c', h1, h2, h3, h4⟩ => ⟨_, h1, hG.below h4, h4, A', c', rfl, h2.less (Nat.le_trans LB.out (Below.size hG))⟩)
    · refine step_plain [] (by kernel_rfl) rfl fun us w' hG hV => ?_
      have o1 := (frame_old2 (us := us) (a := a0) (show (chT[1]?).join = none from rfl)).trans k1
      generalize frame chT a0 us = fr at *
      exact val_ok (v := .pointer (some ⟨w.heap.size, 36, none⟩)) (w' := w') (by go_simp) hG (Below.refl _ _) rfl
    · refine step_plain [6] (by kernel_rfl) rfl fun us w' hG hV => ?_
      have e6 : us 6 = .pointer (some ⟨w.heap.size, 36, none⟩) := hV 6 (by simp)
      have v6 := (frame_at2 (us := us) hl (show (chT[17]?).join = some 6 from rfl)).trans e6
      have hc := K36.out w' hG
      generalize frame chT a0 us = fr at *
      exact val_ok (v := .int .u32 id) (w' := w') (by go_simp) hG (Below.refl _ _) rfl
    · refine step_plain [7] (by kernel_rfl) rfl fun us w' hG hV => ?_
      have e7 : us 7 = .int .u32 id := hV 7 (by simp)
      have v7 := (frame_at2 (us := us) hl (show (chT[18]?).join = some 7 from rfl)).trans e7
      have hw := VI.out
      generalize frame chT a0 us = fr at *
      exact val_ok (v := .int .u64 id) (w' := w') (by go_simp) hG (Below.refl _ _) rfl
    · refine step_plain [8] (by kernel_rfl) rfl fun us w' hG hV => ?_
      have e8 : us 8 = .int .u64 id := hV 8 (by simp)
      have v8 := (frame_at2 (us := us) hl (show (chT[19]?).join = some 8 from rfl)).trans e8
      generalize frame chT a0 us = fr at *
      exact val_ok (v := .slice (some ⟨w'.heap.size, 0, none⟩) 1 1) (w' := w'.alloc (.cells #[.int .u64 id] 50)) (by go_simp) (hG.below (alloc_below _ _)) (alloc_below _ _) ⟨_, rfl, heap_alloc_new _ _⟩
    · refine step_plain [5, 9] (by kernel_rfl) rfl fun us w' hG hV => ?_
      obtain ⟨A5, c5, e5, P5⟩ := (show ∃ A' c', us 5 = .slice A' 4 c' ∧ Own .u8 5 w' B (.slice A' 4 c') T1 from hV 5 (by simp))
      have v5 := (frame_at2 (us := us) hl (show (chT[16]?).join = some 5 from rfl)).trans e5
      obtain ⟨q9, e9, r9⟩ := (show ∃ q, us 9 = .slice (some ⟨q, 0, none⟩) 1 1 ∧ w'.heap[q]? = some (.cells #[.int .u64 id] 50 (0, 0)) from hV 9 (by simp))
      have v9 := (frame_at2 (us := us) hl (show (chT[20]?).join = some 9 from rfl)).trans e9
      generalize frame chT a0 us = fr at *
      exact call_ok (f := 23) (args := #[.slice A5 4 c5, .int .i64 4, .slice (some ⟨q9, 0, none⟩) 1 1]) (by go_simp) ((kdC.put_key (bs := T1) (ns := [id]) 4 4 8 T2 rfl (by decide) ⟨P5.nums, YT1.out, (own_cap P5).1, (own_cap P5).2⟩ (row_nums .u64 r9 rfl 1 rfl) (by decide) (by decide) ET2.out LT2.out).mono fun e w'' ⟨A', c', h1, h2, h3, h4⟩ => ⟨_, h1, hG.below h4, h4, A', c', rfl, h2.less (Nat.le_trans LB.out (Below.size hG))⟩)
    · refine step_plain [10] (by kernel_rfl) rfl fun us w' hG hV => ?_
      obtain ⟨A10, c10, e10, P10⟩ := (show ∃ A' c', us 10 = .slice A' 8 c' ∧ Own .u8 5 w' B (.slice A' 8 c') T2 from hV 10 (by simp))
      have v10 := (frame_at2 (us := us) hl (show (chT[21]?).join = some 10 from rfl)).trans e10
      generalize frame chT a0 us = fr at *
      exact val_ok (v := .slice A10 8 c10) (w' := w') (by go_simp) hG (Below.refl _ _) ⟨A10, c10, rfl, P10⟩
    · intro us w3 hG hV
      obtain ⟨A4, c4, e11, O4⟩ := (show ∃ A' c', us 11 = .slice A' 8 c' ∧ Own .u8 5 w3 B (.slice A' 8 c') T2 from hV 11 (by decide))
      subst ha0
      simp only [frame, chT, fill]
      rw [e11]
      have HO := Lib.hid O4
      have HG3 := Lib.hid hG
      clear hV hl hG O4 k1 k3 e11
      go_wp2_with fail
      go_ret
      exact ⟨A4, c4, rfl, HO.out.less LBW.out, HBW.out.trans (Below.mono HG3.out HBW.out.size)⟩
  · obtain rfl : F = of + 1 := by simpa using hF
    obtain ⟨F, hF2⟩ : ∃ F, F = of + 1 := ⟨_, rfl⟩
    rw [← hF2] at oo ET1
    clear hF hF2
    go_enter Try.func22, Try.ntmps22
    go_upto_region 1 with fail
    rw [← hW]
    clear hW
    go_upto_region 4 with fail
    clear k38 k39 vo oo R0 KR
    refine with_act fun a0 ha0 => ?_
    have hl : chT.length = a0.tmps.size := by rw [ha0]; rfl
    have k1 : a0.tmps[1]?.getD undef = .pointer (some ⟨w.heap.size, 0, none⟩) := by rw [ha0]; rfl
    have k3 : a0.tmps[3]?.getD undef = .int .u64 F := by rw [ha0]; rfl
    refine wp_region_vals (by kernel_rfl) chT (by kernel_rfl) (by kernel_rfl) hl (fun i => if i = 11 then .slice none 0 0 else undef) (by rw [ha0]; rfl) (Gr Wr) (chV w.heap.size B pr F id T1 T2) (gr_drew _) (chV.keep _ _ _ _ _ _ _) ⟨?_, ?_, ?_, ?_, ?_, ?_, ?_, ?_, ?_, ?_, ?_, ?_, trivial⟩ ?_
    · refine step_plain [] (by kernel_rfl) rfl fun us w' hG hV => ?_
      have o1 := (frame_old2 (us := us) (a := a0) (show (chT[1]?).join = none from rfl)).trans k1
      generalize frame chT a0 us = fr at *
      exact val_ok (v := .pointer (some ⟨w.heap.size, 34, none⟩)) (w' := w') (by go_simp) hG (Below.refl _ _) rfl
    · refine step_plain [0] (by kernel_rfl) rfl fun us w' hG hV => ?_
      have e0 : us 0 = .pointer (some ⟨w.heap.size, 34, none⟩) := hV 0 (by simp)
      have v0 := (frame_at2 (us := us) hl (show (chT[11]?).join = some 0 from rfl)).trans e0
      have hc := K34.out w' hG
      generalize frame chT a0 us = fr at *
      exact val_ok (v := .int .u8 pr) (w' := w') (by go_simp) hG (Below.refl _ _) rfl
    · refine step_plain [1] (by kernel_rfl) rfl fun us w' hG hV => ?_
      have e1 : us 1 = .int .u8 pr := hV 1 (by simp)
      have v1 := (frame_at2 (us := us) hl (show (chT[12]?).join = some 1 from rfl)).trans e1
      generalize frame chT a0 us = fr at *
      exact val_ok (v := .slice (some ⟨w'.heap.size, 0, none⟩) 2 2) (w' := w'.alloc (.cells #[.int .u8 pr, .int .u8 0] 5)) (by go_simp) (hG.below (alloc_below _ _)) (alloc_below _ _) ⟨_, rfl, heap_alloc_new _ _⟩
    · refine step_plain [] (by kernel_rfl) rfl fun us w' hG hV => ?_
      have o3 := (frame_old2 (us := us) (a := a0) (show (chT[3]?).join = none from rfl)).trans k3
      generalize frame chT a0 us = fr at *
      exact val_ok (v := .int .u64 F) (w' := w') (by go_simp) hG (Below.refl _ _) rfl
    · refine step_plain [3] (by kernel_rfl) rfl fun us w' hG hV => ?_
      have e3 : us 3 = .int .u64 F := hV 3 (by simp)
      have v3 := (frame_at2 (us := us) hl (show (chT[14]?).join = some 3 from rfl)).trans e3
      generalize frame chT a0 us = fr at *
      exact val_ok (v := .slice (some ⟨w'.heap.size, 0, none⟩) 1 1) (w' := w'.alloc (.cells #[.int .u64 F] 50)) (by go_simp) (hG.below (alloc_below _ _)) (alloc_below _ _) ⟨_, rfl, heap_alloc_new _ _⟩
    · refine step_plain [2, 4] (by kernel_rfl) rfl fun us w' hG hV => ?_
      obtain ⟨q2, e2, r2⟩ := (show ∃ q, us 2 = .slice (some ⟨q, 0, none⟩) 2 2 ∧ w'.heap[q]? = some (.cells #[.int .u8 pr, .int .u8 0] 5 (0, 0)) from hV 2 (by simp))
      have v2 := (frame_at2 (us := us) hl (show (chT[13]?).join = some 2 from rfl)).trans e2
      obtain ⟨q4, e4, r4⟩ := (show ∃ q, us 4 = .slice (some ⟨q, 0, none⟩) 1 1 ∧ w'.heap[q]? = some (.cells #[.int .u64 F] 50 (0, 0)) from hV 4 (by simp))
      have v4 := (frame_at2 (us := us) hl (show (chT[15]?).join = some 4 from rfl)).trans e4
      generalize frame chT a0 us = fr at *
      exact call_ok (f := 23) (args := #[.slice (some ⟨q2, 0, none⟩) 2 2, .int .i64 2, .slice (some ⟨q4, 0, none⟩) 1 1]) (by go_simp) ((kdC.put_key (bs := [pr, 0]) (ns := [F]) 2 2 4 T1 rfl (by decide) ⟨row_nums .u8 r2 rfl 2 rfl, Y2.out, (by decide), (by decide)⟩ (row_nums .u64 r4 rfl 1 rfl) (by decide) (by decide) ET1.out LT1.out).mono fun e w'' ⟨A', c', h1, h2, h3, h4⟩ => ⟨_, h1, hG.below h4, h4, A', c', rfl, h2.less (Nat.le_trans LB.out (Below.size hG))⟩)
    · refine step_plain [] (by kernel_rfl) rfl fun us w' hG hV => ?_
      have o1 := (frame_old2 (us := us) (a := a0) (show (chT[1]?).join = none from rfl)).trans k1
      generalize frame chT a0 us = fr at *
      exact val_ok (v := .pointer (some ⟨w.heap.size, 36, none⟩)) (w' := w') (by go_simp) hG (Below.refl _ _) rfl
    · refine step_plain [6] (by kernel_rfl) rfl fun us w' hG hV => ?_
      have e6 : us 6 = .pointer (some ⟨w.heap.size, 36, none⟩) := hV 6 (by simp)
      have v6 := (frame_at2 (us := us) hl (show (chT[17]?).join = some 6 from rfl)).trans e6
      have hc := K36.out w' hG
      generalize frame chT a0 us = fr at *
      exact val_ok (v := .int .u32 id) (w' := w') (by go_simp) hG (Below.refl _ _) rfl
    · refine step_plain [7] (by kernel_rfl) rfl fun us w' hG hV => ?_
      have e7 : us 7 = .int .u32 id := hV 7 (by simp)
      have v7 := (frame_at2 (us := us) hl (show (chT[18]?).join = some 7 from rfl)).trans e7
      have hw := VI.out
      generalize frame chT a0 us = fr at *
      exact val_ok (v := .int .u64 id) (w' := w') (by go_simp) hG (Below.refl _ _) rfl
    · refine step_plain [8] (by kernel_rfl) rfl fun us w' hG hV => ?_
      have e8 : us 8 = .int .u64 id := hV 8 (by simp)
      have v8 := (frame_at2 (us := us) hl (show (chT[19]?).join = some 8 from rfl)).trans e8
      generalize frame chT a0 us = fr at *
      exact val_ok (v := .slice (some ⟨w'.heap.size, 0, none⟩) 1 1) (w' := w'.alloc (.cells #[.int .u64 id] 50)) (by go_simp) (hG.below (alloc_below _ _)) (alloc_below _ _) ⟨_, rfl, heap_alloc_new _ _⟩
    · refine step_plain [5, 9] (by kernel_rfl) rfl fun us w' hG hV => ?_
      obtain ⟨A5, c5, e5, P5⟩ := (show ∃ A' c', us 5 = .slice A' 4 c' ∧ Own .u8 5 w' B (.slice A' 4 c') T1 from hV 5 (by simp))
      have v5 := (frame_at2 (us := us) hl (show (chT[16]?).join = some 5 from rfl)).trans e5
      obtain ⟨q9, e9, r9⟩ := (show ∃ q, us 9 = .slice (some ⟨q, 0, none⟩) 1 1 ∧ w'.heap[q]? = some (.cells #[.int .u64 id] 50 (0, 0)) from hV 9 (by simp))
      have v9 := (frame_at2 (us := us) hl (show (chT[20]?).join = some 9 from rfl)).trans e9
      generalize frame chT a0 us = fr at *
      exact call_ok (f := 23) (args := #[.slice A5 4 c5, .int .i64 4, .slice (some ⟨q9, 0, none⟩) 1 1]) (by go_simp) ((kdC.put_key (bs := T1) (ns := [id]) 4 4 8 T2 rfl (by decide) ⟨P5.nums, YT1.out, (own_cap P5).1, (own_cap P5).2⟩ (row_nums .u64 r9 rfl 1 rfl) (by decide) (by decide) ET2.out LT2.out).mono fun e w'' ⟨A', c', h1, h2, h3, h4⟩ => ⟨_, h1, hG.below h4, h4, A', c', rfl, h2.less (Nat.le_trans LB.out (Below.size hG))⟩)
    · refine step_plain [10] (by kernel_rfl) rfl fun us w' hG hV => ?_
      obtain ⟨A10, c10, e10, P10⟩ := (show ∃ A' c', us 10 = .slice A' 8 c' ∧ Own .u8 5 w' B (.slice A' 8 c') T2 from hV 10 (by simp))
      have v10 := (frame_at2 (us := us) hl (show (chT[21]?).join = some 10 from rfl)).trans e10
      generalize frame chT a0 us = fr at *
      exact val_ok (v := .slice A10 8 c10) (w' := w') (by go_simp) hG (Below.refl _ _) ⟨A10, c10, rfl, P10⟩
    · intro us w3 hG hV
      obtain ⟨A4, c4, e11, O4⟩ := (show ∃ A' c', us 11 = .slice A' 8 c' ∧ Own .u8 5 w3 B (.slice A' 8 c') T2 from hV 11 (by decide))
      subst ha0
      simp only [frame, chT, fill]
      rw [e11]
      have HO := Lib.hid O4
      have HG3 := Lib.hid hG
      clear hV hl hG O4 k1 k3 e11
      go_wp2_with fail
      go_ret
      exact ⟨A4, c4, rfl, HO.out.less LBW.out, HBW.out.trans (Below.mono HG3.out HBW.out.size)⟩
def l8V (g0 : Nat) (A : Option Addr) (n c : Nat) (LA LB : List Value) (sa sb H K X : List Int) (AH : Option Addr) (cH : Nat) (AK : Option Addr) (kn cK NN : Nat) : Nat → Value → World → Prop
  | 0, v, _ => v = .slice AH 8 cH
  | 1, v, _ => v = .pointer (some ⟨g0, 0, none⟩)
  | 2, v, _ => v = .agg LA.toArray
  | 3, v, w => ∃ A' c', v = .slice A' 16 c' ∧ chkC.PartAt w w.heap.size ⟨A', 16, c', sa⟩
  | 4, v, _ => v = .pointer (some ⟨g0, 17, none⟩)
  | 5, v, _ => v = .agg LB.toArray
  | 6, v, w => ∃ A' c', v = .slice A' 16 c' ∧ chkC.PartAt w w.heap.size ⟨A', 16, c', sb⟩
  | 7, v, _ => v = .slice AK kn cK
  | 8, v, _ => v = .pointer (some ⟨g0, 40, none⟩)
  | 9, v, _ => v = .slice A n c
  | 10, v, w => ∃ q A' c' A'' c'', v = .slice (some ⟨q, 0, none⟩) 5 5 ∧ w.heap[q]? = some (.cells #[.slice AH 8 cH, .slice A' 16 c', .slice A'' 16 c'', .slice AK kn cK, .slice A n c] 26 (0, 0)) ∧ chkC.PartAt w w.heap.size ⟨A', 16, c', sa⟩ ∧ chkC.PartAt w w.heap.size ⟨A'', 16, c'', sb⟩
  | 11, v, w => ∃ A' c', v = .slice A' NN c' ∧ Own .u8 5 w g0 (.slice A' NN c') X
  | 12, v, w => ∃ A' c', v = .slice A' NN c' ∧ Own .u8 5 w g0 (.slice A' NN c') X
  | 13, v, _ => v = .int .i64 0
  | _, _, _ => True
theorem l8V.keep (g0 : Nat) (A : Option Addr) (n c : Nat) (LA LB : List Value) (sa sb H K X : List Int) (AH : Option Addr) (cH : Nat) (AK : Option Addr) (kn cK NN : Nat) (i : Nat) (v : Value) (w w' : World) (hb : Below w.heap.size w w') (h : l8V g0 A n c LA LB sa sb H K X AH cH AK kn cK NN i v w) : l8V g0 A n c LA LB sa sb H K X AH cH AK kn cK NN i v w' := by
  by_cases e3 : i = 3
  · subst e3
    obtain ⟨A', c', h1, h2⟩ := h
    exact ⟨A', c', h1, h2.below hb hb.size⟩
  by_cases e6 : i = 6
  · subst e6
    obtain ⟨A', c', h1, h2⟩ := h
    exact ⟨A', c', h1, h2.below hb hb.size⟩
  by_cases e10 : i = 10
  · subst e10
    obtain ⟨q, A', c', A'', c'', h1, h2, h3, h4⟩ := h
    exact ⟨q, A', c', A'', c'', h1, by rw [hb.block _ (lt_of_row h2)]; exact h2, h3.below hb hb.size, h4.below hb hb.size⟩
  by_cases e11 : i = 11
  · subst e11
    obtain ⟨A', c', h1, h2⟩ := h
    exact ⟨A', c', h1, h2.below hb⟩
  by_cases e12 : i = 12
  · subst e12
    obtain ⟨A', c', h1, h2⟩ := h
    exact ⟨A', c', h1, h2.below hb⟩
  unfold l8V at h ⊢
  split at h <;> first | exact h | exact absurd rfl (by assumption)
def l8T : List (Option Nat) := [none, none, some 12, some 13, none, none, none, none, none, none, none, none, none, none, none, none, none, none, none, none, none, none, none, none, none, none, none, none, none, none, none, none, none, some 0, some 1, some 2, some 3, some 4, some 5, some 6, some 7, some 8, some 9, some 10, some 11]
set_option maxRecDepth 100000 in
set_option maxHeartbeats 4000000 in
theorem clay_any (p : Pkt) (A : Option Addr) (n c : Nat) (xs : List Int) (w : World) (hp : p.Ok) (hx : Nums .u8 w w.heap.size A n xs) (hy : ∀ x ∈ xs, Byte x) (hn : n ≤ 9223372036854775807) (hf : mayS p n = true → n ≤ 9000) :
    Calls Try.prog 11 #[.agg (pktV p A n c)] w (OwnE w (layL p n xs) (layE p n)) := by
  obtain ⟨W, hW⟩ : ∃ W, W = w.alloc (.cells (pktV p A n c) 28) := ⟨_, rfl⟩
  have R0 := Lib.hid (show W.heap[w.heap.size]? = some (.cells (pktV p A n c) 28 (0, 0)) by rw [hW]; exact heap_alloc_new w _)
  have HB := Lib.hid (show Below w.heap.size w W by rw [hW]; exact alloc_below _ _)
  have c0 := pkC hp A n c
  have UI := Lib.hid c0.info
  have KR := Lib.hid (fun (w' : World) (h : Below W.heap.size W w') => (show w'.heap[w.heap.size]? = some (.cells (pktV p A n c) 28 (0, 0)) by rw [h.block _ (lt_of_row R0.out)]; exact R0.out))
  have MC := Lib.hid (fun w' => cmay_any p A n c w' hp hn)
  have HWW := Lib.hid (Below.refl W.heap.size W)
  by_cases hm : mayS p n = true
  rotate_left
  · have hm' : mayS p n = false := by cases h : mayS p n <;> simp_all
    have ev : layL p n xs = [] := by unfold layL; rw [hm']; rfl
    have ee : layE p n = 1 := by unfold layE; rw [hm']; rfl
    rw [ev, ee]
    rw [hm'] at MC
    generalize pktV p A n c = CP at *
    clear hm hm' ev ee c0 hx hp hf
    go_enter Try.func11, Try.ntmps11
    go_upto_region 1 with fail
    rw [← hW]
    clear hW
    go_wp2_with (first
      | (refine wpList_load_row rfl 28 (.tmp 1) rfl w.heap.size rfl _ _ _ _ (KR.out _ HWW.out) Try.underlying28 rfl UI.out ?_)
      | (go_at_call 13; (refine (MC.out _).mono ?_); rintro e w2 ⟨rfl, BB⟩
         have HW2 := Lib.hid BB
         clear BB))
    go_ret2
    exact ⟨none, 0, 0, rfl, Own.nil _ _, HB.out.trans (HW2.out.mono HB.out.size)⟩
  obtain ⟨i0, hi0, hz0, hz1, hz2⟩ := info_parts byte_inf
  have T1' := Lib.hid hi0; have T2 := Lib.hid hz0; have T3 := Lib.hid hz1; have T4 := Lib.hid hz2
  have hn9 := Lib.hid (hf hm)
  obtain ⟨m1, m2, m3, m4, m5, m6, m7⟩ := mayS_parts hm
  have K40 := Lib.hid (fun w' (h : Below W.heap.size W w') => PkC.cell (KR.out w' h) c0.load)
  have K35 := Lib.hid (fun w' (h : Below W.heap.size W w') => PkC.cell (KR.out w' h) c0.hops)
  have K34 := Lib.hid (fun w' (h : Below W.heap.size W w') => PkC.cell (KR.out w' h) c0.proto)
  have K37 := Lib.hid (fun w' (h : Below W.heap.size W w') => PkC.cell (KR.out w' h) c0.whole)
  have SA0 := Lib.hid (fun w' (h : Below W.heap.size W w') => PkC.part (KR.out w' h) c0.src)
  have SB0 := Lib.hid (fun w' (h : Below W.heap.size W w') => PkC.part (KR.out w' h) c0.dst)
  have IA := Lib.hid (adrC_info (s := p.s) hp.la)
  have IB := Lib.hid (adrC_info (s := p.t) hp.lb)
  have BA := Lib.hid (fun w' => cbytes_any p.s p.a w' hp.la)
  have BB := Lib.hid (fun w' => cbytes_any p.t p.b w' hp.lb)
  have ea : adrL p.s p.a = p.a := by rw [m1]; exact List.take_of_length_le (by rw [hp.la]; decide)
  have eb : adrL p.t p.b = p.b := by rw [m2]; exact List.take_of_length_le (by rw [hp.lb]; decide)
  rw [← adrC_arr, ea] at BA
  rw [← adrC_arr, eb] at BB
  have ZA := Lib.hid hp.la
  have ZB := Lib.hid hp.lb
  have YA := Lib.hid hp.ya
  have YB := Lib.hid hp.yb
  have CH := Lib.hid (fun w' (hw : p.whole = false) => chead_any p A n c w' hp m4 m5 (by omega) hw)
  have HX0 := Lib.hid (fun w' (h : Below W.heap.size W w') => (show Nums .u8 w' w'.heap.size A n xs from (hx.below (HB.out.trans (h.mono HB.out.size))).more (Nat.le_trans HB.out.size h.size)))
  have ev : layL p n xs = hedL p n ++ (p.a ++ (p.b ++ (cutL p ++ xs))) := by unfold layL; rw [if_pos hm]
  have ee : layE p n = 0 := by unfold layE; rw [if_pos hm]
  rw [hm] at MC
  rw [ev, ee]
  have YK := Lib.hid (cutL_byte hp hm)
  have YH := Lib.hid (hedL_byte hp hm)
  have LK := Lib.hid (cutL_len p)
  have NK := Lib.hid (cutN_bd p)
  obtain ⟨X, hX⟩ : ∃ X, X = hedL p n ++ (p.a ++ (p.b ++ (cutL p ++ xs))) := ⟨_, rfl⟩
  have EXX := Lib.hid hX.symm
  rw [← hX]
  obtain ⟨kn, hkn⟩ : ∃ k, k = cutN p := ⟨_, rfl⟩
  rw [← hkn] at LK NK
  obtain ⟨NN, hNN⟩ : ∃ k, k = 40 + kn + n := ⟨_, rfl⟩
  have NP := Lib.hid (show 0 < NN ∧ NN ≤ 10000 by have := hn9.out; have := NK.out; omega)
  have ENN := Lib.hid hNN
  obtain ⟨S, hS⟩ : ∃ S : Int, S = (kn : Int) + (n : Int) := ⟨_, rfl⟩
  have lS : 0 ≤ S ∧ S ≤ 65535 := by have := hn9.out; have := NK.out; omega
  have WS := Lib.hid (show IntKind.i64.wrap ((kn : Int) + (n : Int)) = S by rw [← hS]; exact IntWalk.i64_in _ (by omega))
  have VS := Lib.hid (show IntKind.u64.wrap S = S from IntWalk.u64_in _ (by omega))
  have ES := Lib.hid hS.symm
  obtain ⟨T1, hT1⟩ : ∃ T, T = [96, 0, 0, 0] ++ nb2 S := ⟨_, rfl⟩
  have ET1 := Lib.hid (show octC.putL [96, 0, 0, 0] 2 [S] = T1 by rw [hT1]; exact put2 lS.1 lS.2)
  have LT1 := Lib.hid (show T1.length = 6 by rw [hT1]; rfl)
  have YT1 := Lib.hid (show ∀ x ∈ T1, Byte x from fun x hx => YH.out x (by unfold hedL; rw [← hkn, ← hS, ← hT1]; exact List.mem_append_left _ hx))
  obtain ⟨nx, hnx⟩ : ∃ z, z = nxtZ p := ⟨_, rfl⟩
  obtain ⟨ho, hho⟩ : ∃ z, z = p.hops := ⟨_, rfl⟩
  obtain ⟨H, hH⟩ : ∃ H, H = T1 ++ [nx, ho] := ⟨_, rfl⟩
  have eH : hedL p n = H := by unfold hedL; rw [← hkn, ← hS, ← hT1, ← hnx, ← hho, hH]
  rw [eH] at YH EXX
  have EH := Lib.hid hH.symm
  have L8 := Lib.hid (show H.length = 8 by rw [hH, List.length_append, LT1.out]; rfl)
  have enx : nx = if p.whole then p.proto else 44 := by rw [hnx]; rfl
  have ek : (p.whole = true → cutL p = []) ∧ kn = (if p.whole then 0 else 8) := ⟨fun h => by unfold cutL; rw [if_pos h], by rw [hkn]; rfl⟩
  rw [← hho] at K35
  obtain ⟨K, hK⟩ : ∃ K, K = cutL p := ⟨_, rfl⟩
  rw [← hK] at ek YK LK CH EXX
  have HY := Lib.hid hy
  obtain ⟨wl, hwl⟩ : ∃ b, b = p.whole := ⟨_, rfl⟩
  rw [← hwl] at K37 CH enx ek
  generalize p.proto = pr at *
  generalize adrC p.s p.a = LA at *
  generalize adrC p.t p.b = LB at *
  generalize p.a = sa at *
  generalize p.b = sb at *
  generalize hCP : pktV p A n c = CP at *
  clear hCP hwl hK hho hnx hH eH hT1 hS lS hNN hkn hX ev ee hm hx hp hf hy m1 m2 m3 m4 m5 m6 m7 ea eb hi0 hz0 hz1 hz2 c0
  have k34 := K34.out W HWW.out
  have k37 := K37.out W HWW.out
  cases wl
  · obtain rfl : nx = 44 := by simpa using enx
    obtain rfl : kn = 8 := by simpa using ek.2
    clear enx ek k34 k37
    go_enter Try.func11, Try.ntmps11
    go_upto_region 1 with fail
    rw [← hW]
    clear hW
    go_upto_region 5 with (first
      | (refine wpList_load_row rfl 28 (.tmp 1) rfl w.heap.size rfl _ _ _ _ (KR.out _ HWW.out) Try.underlying28 rfl UI.out ?_)
      | (go_at_call 13; (refine (MC.out _).mono ?_); rintro e w2 ⟨rfl, BB⟩
         have HW2 := Lib.hid BB
         have k34 := K34.out w2 BB
         have k37 := K37.out w2 BB
         clear BB))
    clear k34 k37
    have CH2 := Lib.hid (CH.out w2 (by trivial))
    go_upto_region 6 with (first
      | (refine wpList_load_row rfl 28 (.tmp 1) rfl w.heap.size rfl _ _ _ _ (KR.out _ HW2.out) Try.underlying28 rfl UI.out ?_)
      | (go_at_call 22; (refine CH2.out.mono ?_); rintro e w3 ⟨AK, cK, rfl, OK, BB⟩
         have BWW := Lib.hid (HW2.out.trans (BB.mono HW2.out.size))
         have BW3 := Lib.hid (HB.out.trans (BWW.out.mono HB.out.size))
         have NK3 := Lib.hid OK.nums
         clear OK BB))
    clear CH2 CH
    obtain ⟨Wl, hWl⟩ : ∃ W, W = w3.alloc (.cells #[.int .u8 96, .int .u8 0, .int .u8 0, .int .u8 0] 5) := ⟨_, rfl⟩
    obtain ⟨Wm, hWm⟩ : ∃ W, W = Wl.alloc (.cells #[.int .u64 S] 50) := ⟨_, rfl⟩
    have Bl : Below w3.heap.size w3 Wl := by rw [hWl]; exact alloc_below _ _
    have Bm : Below Wl.heap.size Wl Wm := by rw [hWm]; exact alloc_below _ _
    have sl : Wl.heap.size = w3.heap.size + 1 := by rw [hWl]; exact alloc_size _ _
    have KWl := Lib.hid (BW3.out.trans (Bl.mono BW3.out.size))
    have KWm := Lib.hid (KWl.out.trans (Bm.mono KWl.out.size))
    have N1 : Nums .u8 Wl (w3.heap.size + 1) (some ⟨w3.heap.size, 0, none⟩) 4 [96, 0, 0, 0] := by rw [hWl]; exact lit_nums .u8 w3 [96, 0, 0, 0] 5 _ rfl 4 rfl
    have N2 : Nums .u64 Wm (Wl.heap.size + 1) (some ⟨Wl.heap.size, 0, none⟩) 1 [S] := by rw [hWm]; exact lit_nums .u64 Wl [S] 50 _ rfl 1 rfl
    have sm : Wm.heap.size = Wl.heap.size + 1 := by rw [hWm]; exact alloc_size _ _
    have PU := Lib.hid (kdC.put_key (w := Wm) (A := some ⟨w3.heap.size, 0, none⟩) (n := 4) (c := 4) (P := some ⟨Wl.heap.size, 0, none⟩) (m := 1) (c2 := 1) (bs := [96, 0, 0, 0]) (ns := [S]) 2 2 6 T1 rfl (by decide) ⟨(N1.below (Bm.mono (by omega))).more (by omega), (by unfold Byte; simp), (by decide), (by decide)⟩ (N2.more (by omega)) (by decide) (by decide) ET1.out LT1.out)
    rw [sl] at PU
    have ws : IntKind.i64.wrap ((8 : Int) + (n : Int)) = S := by first | exact WS.out | (have h := WS.out; rw [show ((0 : Nat) : Int) + (n : Int) = (n : Int) by omega] at h; exact h)
    have vs := VS.out
    have k40 := K40.out Wl (BWW.out.trans (Bl.mono BWW.out.size))
    rw [hWl] at k40
    clear N1 N2
    go_upto_region 7 with (first
      | (rw [← hWl, ← hWm]; go_at_call 23; (refine PU.out.mono ?_); rintro e w5 ⟨A5, c5, rfl, O5, K5, B5⟩
         have HO := Lib.hid O5
         have BW5 := Lib.hid (KWm.out.trans (B5.mono KWm.out.size))
         have B35 := Lib.hid ((Bl.trans (Bm.mono Bl.size)).trans (B5.mono (by omega)))
         have LM := Lib.hid (show w3.heap.size ≤ Wm.heap.size by omega)
         clear O5 K5 B5))
    clear k40 ws vs PU
    obtain ⟨B, hB⟩ : ∃ B, B = Wm.heap.size := ⟨_, rfl⟩
    have HB5 := Lib.hid (show B ≤ w5.heap.size by rw [hB]; have h1 := HO.out.blk; have := B35.out.size; obtain ⟨g5, _, h2, h3, _⟩ := HO.out.row (by decide); omega)
    have LMB := Lib.hid (show w3.heap.size ≤ B by rw [hB]; exact LM.out)
    rw [← hB] at HO
    clear hB hWm hWl Bl Bm sl sm LM KWl KWm
    have k35 := K35.out w5 (BWW.out.trans (B35.out.mono BWW.out.size))
    have n2 := Lib.hid (lit_nums .u8 w5 [44, ho] 5 _ rfl 2 rfl)
    have O3 := Lib.hid (HO.out.alloc (.cells #[.int .u8 44, .int .u8 ho] 5))
    have S3 := Lib.hid (show B ≤ (w5.alloc (.cells #[.int .u8 44, .int .u8 ho] 5)).heap.size by rw [alloc_size]; have := HB5.out; omega)
    have NB3 := Lib.hid (alloc_below w5 (.cells #[.int .u8 44, .int .u8 ho] 5))
    go_upto_region 8 with (at_builtin
                           (refine wpList_app _ rfl (.tmp 27) (.tmp 31) _ rfl 5 i0 _ 1 Try.underlying26 T1'.out T2.out T3.out T4.out rfl B _ T1 rfl O3.out (w5.heap.size + 1) _ 2 2 [44, ho] rfl n2.out (by rw [LT1.out]; unfold maxLen; omega) (by rw [LT1.out]; omega) S3.out ?_)
                           intro v4 w4 O hg
                           obtain ⟨AH, cH, ev, g1, g2, NH⟩ := O.form
                           rw [EH.out, L8.out] at ev g1 NH
                           subst ev
                           have HNH := Lib.hid NH
                           have B34 := Lib.hid (show Below B w5 w4 from Below.grown (NB3.out.mono HB5.out) hg S3.out fun q hq => (O3.out.blk q hq).1)
                           clear O hg g1 g2 NH)
    clear n2 O3 S3 NB3 k35 HO
    have BW4 := Lib.hid (BW5.out.trans (B34.out.mono (by have := LMB.out; have := BW3.out.size; omega)))
    have KW4 := Lib.hid (show Below W.heap.size W w4 from BWW.out.trans ((B35.out.trans (B34.out.mono LMB.out)).mono BWW.out.size))
    have SA := Lib.hid (fun w' (h : Gr w4 w') => SA0.out w' (KW4.out.trans (Below.mono h KW4.out.size)))
    have SB := Lib.hid (fun w' (h : Gr w4 w') => SB0.out w' (KW4.out.trans (Below.mono h KW4.out.size)))
    have K40 := Lib.hid (fun w' (h : Gr w4 w') => K40.out w' (KW4.out.trans (Below.mono h KW4.out.size)))
    have B3w4 := Lib.hid (show Below w3.heap.size w3 w4 from B35.out.trans (B34.out.mono LMB.out))
    have PH := Lib.hid (fun w' (h : Gr w4 w') => (show chkC.PartAt w' w'.heap.size ⟨AH, 8, cH, H⟩ from ⟨(HNH.out.below h).more (Below.size h), (show 8 ≤ 10000 by decide), YH.out⟩))
    have PK := Lib.hid (fun w' (h : Gr w4 w') => (show chkC.PartAt w' w'.heap.size ⟨AK, 8, cK, K⟩ from ⟨((NK3.out.below B3w4.out).more B3w4.out.size).below h |>.more (Below.size h), (show 8 ≤ 10000 by decide), YK.out⟩))
    have PX := Lib.hid (fun w' (h : Gr w4 w') => (show chkC.PartAt w' w'.heap.size ⟨A, n, c, xs⟩ from ⟨HX0.out w' (KW4.out.trans (Below.mono h KW4.out.size)), (show n ≤ 10000 by have := hn9.out; omega), HY.out⟩))
    have LG0 := Lib.hid (show w.heap.size ≤ w4.heap.size from BW4.out.size)
    clear B35 B34 B3w4 KW4 BW5 HB5 LMB NK3 HNH BWW BW3 SA0 SB0
    refine with_act fun a0 ha0 => ?_
    have hl : l8T.length = a0.tmps.size := by rw [ha0]; rfl
    have k1 : a0.tmps[1]?.getD undef = .pointer (some ⟨w.heap.size, 0, none⟩) := by rw [ha0]; rfl
    have k5 : a0.tmps[5]?.getD undef = .slice AK 8 cK := by rw [ha0]; rfl
    have k6 : a0.tmps[6]?.getD undef = .slice AH 8 cH := by rw [ha0]; rfl
    refine wp_region_vals (by kernel_rfl) l8T (by kernel_rfl) (by kernel_rfl) hl (fun i => if i = 12 then a0.tmps[2]?.getD undef else if i = 13 then .int .i64 0 else undef) (by rw [ha0]; rfl) (Gr w4) (l8V w.heap.size A n c LA LB sa sb H K X AH cH AK 8 cK NN) (gr_drew _) (l8V.keep _ _ _ _ _ _ _ _ _ _ _ _ _ _ _ _ _) ⟨?_, ?_, ?_, ?_, ?_, ?_, ?_, ?_, ?_, ?_, ?_, ?_, ?_, ?_, trivial⟩ ?_
    · refine step_plain [] (by kernel_rfl) rfl fun us w' hG hV => ?_
      have o6 := (frame_old2 (us := us) (a := a0) (show (l8T[6]?).join = none from rfl)).trans k6
      generalize frame l8T a0 us = fr at *
      exact val_ok (v := .slice AH 8 cH) (w' := w') (by go_simp) hG (Below.refl _ _) rfl
    · refine step_plain [] (by kernel_rfl) rfl fun us w' hG hV => ?_
      have o1 := (frame_old2 (us := us) (a := a0) (show (l8T[1]?).join = none from rfl)).trans k1
      generalize frame l8T a0 us = fr at *
      exact val_ok (v := .pointer (some ⟨w.heap.size, 0, none⟩)) (w' := w') (by go_simp) hG (Below.refl _ _) rfl
    · refine step_plain [1] (by kernel_rfl) rfl fun us w' hG hV => ?_
      have e1 : us 1 = .pointer (some ⟨w.heap.size, 0, none⟩) := hV 1 (by simp)
      have v1 := (frame_at2 (us := us) hl (show (l8T[34]?).join = some 1 from rfl)).trans e1
      have hg1 := SA.out w' hG
      generalize frame l8T a0 us = fr at *
      exact val_ok (v := .agg LA.toArray) (w' := w') (loadp_run (s := 34) rfl v1 LA _ hg1 Try.underlying24 rfl IA.out) hG (Below.refl _ _) rfl
    · refine step_plain [2] (by kernel_rfl) rfl fun us w' hG hV => ?_
      have e2 : us 2 = .agg LA.toArray := hV 2 (by simp)
      have v2 := (frame_at2 (us := us) hl (show (l8T[35]?).join = some 2 from rfl)).trans e2
      generalize frame l8T a0 us = fr at *
      exact call_ok (f := 25) (args := #[.agg LA.toArray]) (by go_simp) ((BA.out w').mono fun e w'' ⟨A', n', c', h1, h2, h3, h4, h5, h6⟩ => by
        obtain rfl : 16 = n' := ZA.out.symm.trans h2
        exact ⟨_, h1, hG.below h6, h6, A', c', rfl, h5.nums, (show 16 ≤ 10000 by decide), YA.out⟩)
    · refine step_plain [] (by kernel_rfl) rfl fun us w' hG hV => ?_
      have o1 := (frame_old2 (us := us) (a := a0) (show (l8T[1]?).join = none from rfl)).trans k1
      generalize frame l8T a0 us = fr at *
      exact val_ok (v := .pointer (some ⟨w.heap.size, 17, none⟩)) (w' := w') (by go_simp) hG (Below.refl _ _) rfl
    · refine step_plain [4] (by kernel_rfl) rfl fun us w' hG hV => ?_
      have e4 : us 4 = .pointer (some ⟨w.heap.size, 17, none⟩) := hV 4 (by simp)
      have v4 := (frame_at2 (us := us) hl (show (l8T[37]?).join = some 4 from rfl)).trans e4
      have hg1 := SB.out w' hG
      generalize frame l8T a0 us = fr at *
      exact val_ok (v := .agg LB.toArray) (w' := w') (loadp_run (s := 37) rfl v4 LB _ hg1 Try.underlying24 rfl IB.out) hG (Below.refl _ _) rfl
    · refine step_plain [5] (by kernel_rfl) rfl fun us w' hG hV => ?_
      have e5 : us 5 = .agg LB.toArray := hV 5 (by simp)
      have v5 := (frame_at2 (us := us) hl (show (l8T[38]?).join = some 5 from rfl)).trans e5
      generalize frame l8T a0 us = fr at *
      exact call_ok (f := 25) (args := #[.agg LB.toArray]) (by go_simp) ((BB.out w').mono fun e w'' ⟨A', n', c', h1, h2, h3, h4, h5, h6⟩ => by
        obtain rfl : 16 = n' := ZB.out.symm.trans h2
        exact ⟨_, h1, hG.below h6, h6, A', c', rfl, h5.nums, (show 16 ≤ 10000 by decide), YB.out⟩)
    · refine step_plain [] (by kernel_rfl) rfl fun us w' hG hV => ?_
      have o5 := (frame_old2 (us := us) (a := a0) (show (l8T[5]?).join = none from rfl)).trans k5
      generalize frame l8T a0 us = fr at *
      exact val_ok (v := .slice AK 8 cK) (w' := w') (by go_simp) hG (Below.refl _ _) rfl
    · refine step_plain [] (by kernel_rfl) rfl fun us w' hG hV => ?_
      have o1 := (frame_old2 (us := us) (a := a0) (show (l8T[1]?).join = none from rfl)).trans k1
      generalize frame l8T a0 us = fr at *
      exact val_ok (v := .pointer (some ⟨w.heap.size, 40, none⟩)) (w' := w') (by go_simp) hG (Below.refl _ _) rfl
    · refine step_plain [8] (by kernel_rfl) rfl fun us w' hG hV => ?_
      have e8 : us 8 = .pointer (some ⟨w.heap.size, 40, none⟩) := hV 8 (by simp)
      have v8 := (frame_at2 (us := us) hl (show (l8T[41]?).join = some 8 from rfl)).trans e8
      have hc := K40.out w' hG
      generalize frame l8T a0 us = fr at *
      exact val_ok (v := .slice A n c) (w' := w') (by go_simp) hG (Below.refl _ _) rfl
    · refine step_plain [0, 3, 6, 7, 9] (by kernel_rfl) rfl fun us w' hG hV => ?_
      have e0 : us 0 = .slice AH 8 cH := hV 0 (by simp)
      have v0 := (frame_at2 (us := us) hl (show (l8T[33]?).join = some 0 from rfl)).trans e0
      obtain ⟨A3, c3, e3, P3⟩ := (show ∃ A' c', us 3 = .slice A' 16 c' ∧ chkC.PartAt w' w'.heap.size ⟨A', 16, c', sa⟩ from hV 3 (by simp))
      have v3 := (frame_at2 (us := us) hl (show (l8T[36]?).join = some 3 from rfl)).trans e3
      obtain ⟨A6, c6, e6, P6⟩ := (show ∃ A' c', us 6 = .slice A' 16 c' ∧ chkC.PartAt w' w'.heap.size ⟨A', 16, c', sb⟩ from hV 6 (by simp))
      have v6 := (frame_at2 (us := us) hl (show (l8T[39]?).join = some 6 from rfl)).trans e6
      have e7 : us 7 = .slice AK 8 cK := hV 7 (by simp)
      have v7 := (frame_at2 (us := us) hl (show (l8T[40]?).join = some 7 from rfl)).trans e7
      have e9 : us 9 = .slice A n c := hV 9 (by simp)
      have v9 := (frame_at2 (us := us) hl (show (l8T[42]?).join = some 9 from rfl)).trans e9
      generalize frame l8T a0 us = fr at *
      exact val_ok (v := .slice (some ⟨w'.heap.size, 0, none⟩) 5 5) (w' := w'.alloc (.cells #[.slice AH 8 cH, .slice A3 16 c3, .slice A6 16 c6, .slice AK 8 cK, .slice A n c] 26)) (by go_simp) (hG.below (alloc_below _ _)) (alloc_below _ _) ⟨_, A3, c3, A6, c6, rfl, heap_alloc_new _ _, P3.below (alloc_below _ _) (alloc_below _ _).size, P6.below (alloc_below _ _) (alloc_below _ _).size⟩
    · refine step_plain [10] (by kernel_rfl) rfl fun us w' hG hV => ?_
      obtain ⟨q10, A10, c10, B10, d10, e10, r10, P10, Q10⟩ := (show ∃ q A' c' A'' c'', us 10 = .slice (some ⟨q, 0, none⟩) 5 5 ∧ w'.heap[q]? = some (.cells #[.slice AH 8 cH, .slice A' 16 c', .slice A'' 16 c'', .slice AK 8 cK, .slice A n c] 26 (0, 0)) ∧ chkC.PartAt w' w'.heap.size ⟨A', 16, c', sa⟩ ∧ chkC.PartAt w' w'.heap.size ⟨A'', 16, c'', sb⟩ from hV 10 (by simp))
      have v10 := (frame_at2 (us := us) hl (show (l8T[43]?).join = some 10 from rfl)).trans e10
      have CC := chkC.concat_any (some ⟨q10, 0, none⟩) 5 5 NN _ w' (parts_row5 r10 (PH.out w' hG) P10 Q10 (PK.out w' hG) (PX.out w' hG)) (by decide) rfl (by simp only [chkC.nsum]; have := ENN.out; omega) (by have := NP.out; omega) (by have := NP.out; omega)
      have hcat : chkC.catL [⟨AH, 8, cH, H⟩, ⟨A10, 16, c10, sa⟩, ⟨B10, 16, d10, sb⟩, ⟨AK, 8, cK, K⟩, ⟨A, n, c, xs⟩] = X := by rw [← EXX.out]; simp [chkC.catL]
      rw [hcat] at CC
      generalize frame l8T a0 us = fr at *
      exact call_ok (f := 24) (args := #[.slice (some ⟨q10, 0, none⟩) 5 5]) (by go_simp) (CC.mono fun e w'' ⟨A', c', h1, h2, h3, h4, h5⟩ => ⟨_, h1, hG.below h5, h5, A', c', rfl, h4.less (Nat.le_trans LG0.out (Below.size hG))⟩)
    · refine step_plain [11] (by kernel_rfl) rfl fun us w' hG hV => ?_
      obtain ⟨A11, c11, e11, P11⟩ := (show ∃ A' c', us 11 = .slice A' NN c' ∧ Own .u8 5 w' w.heap.size (.slice A' NN c') X from hV 11 (by simp))
      have v11 := (frame_at2 (us := us) hl (show (l8T[44]?).join = some 11 from rfl)).trans e11
      generalize frame l8T a0 us = fr at *
      exact val_ok (v := .slice A11 NN c11) (w' := w') (by go_simp) hG (Below.refl _ _) ⟨A11, c11, rfl, P11⟩
    · refine step_plain [] (by kernel_rfl) rfl fun us w' hG hV => ?_
      generalize frame l8T a0 us = fr at *
      exact val_ok (v := .int .i64 0) (w' := w') (by go_simp) hG (Below.refl _ _) rfl
    · intro us w5 hG hV
      obtain ⟨AX, cX, e12, OX⟩ := (show ∃ A' c', us 12 = .slice A' NN c' ∧ Own .u8 5 w5 w.heap.size (.slice A' NN c') X from hV 12 (by decide))
      have e13 : us 13 = .int .i64 0 := hV 13 (by decide)
      subst ha0
      simp only [frame, l8T, fill]
      rw [e12, e13]
      have HO := Lib.hid OX
      have HG5 := Lib.hid hG
      clear hV hl hG OX k1 k5 k6 e12 e13
      go_wp2_with fail
      go_ret2
      exact ⟨AX, NN, cX, rfl, HO.out, BW4.out.trans (Below.mono HG5.out BW4.out.size)⟩
  · obtain rfl : nx = pr := by simpa using enx
    obtain rfl : K = [] := ek.1 rfl
    obtain rfl : kn = 0 := by simpa using ek.2
    clear enx ek k34 k37 CH
    go_enter Try.func11, Try.ntmps11
    go_upto_region 1 with fail
    rw [← hW]
    clear hW
    go_upto_region 6 with (first
      | (refine wpList_load_row rfl 28 (.tmp 1) rfl w.heap.size rfl _ _ _ _ (KR.out _ HWW.out) Try.underlying28 rfl UI.out ?_)
      | (go_at_call 13; (refine (MC.out _).mono ?_); rintro e w2 ⟨rfl, BB⟩
         have HW2 := Lib.hid BB
         have k34 := K34.out w2 BB
         have k37 := K37.out w2 BB
         clear BB))
    clear k34 k37
    obtain ⟨w3, hw3⟩ : ∃ w3, w3 = w2 := ⟨_, rfl⟩
    subst hw3
    obtain ⟨AK, cK, hAK, hcK, NK3⟩ : ∃ (AK : Option Addr) (cK : Nat), AK = none ∧ cK = 0 ∧ Hid (Nums .u8 w3 w3.heap.size AK 0 ([] : List Int)) := ⟨none, 0, rfl, rfl, Lib.hid (Nums.none_ 0)⟩
    have BWW := Lib.hid HW2.out
    have BW3 := Lib.hid (HB.out.trans (BWW.out.mono HB.out.size))
    rw [show (Value.slice none 0 0) = .slice AK 0 cK by rw [hAK, hcK]]
    clear hAK hcK
    obtain ⟨Wl, hWl⟩ : ∃ W, W = w3.alloc (.cells #[.int .u8 96, .int .u8 0, .int .u8 0, .int .u8 0] 5) := ⟨_, rfl⟩
    obtain ⟨Wm, hWm⟩ : ∃ W, W = Wl.alloc (.cells #[.int .u64 S] 50) := ⟨_, rfl⟩
    have Bl : Below w3.heap.size w3 Wl := by rw [hWl]; exact alloc_below _ _
    have Bm : Below Wl.heap.size Wl Wm := by rw [hWm]; exact alloc_below _ _
    have sl : Wl.heap.size = w3.heap.size + 1 := by rw [hWl]; exact alloc_size _ _
    have KWl := Lib.hid (BW3.out.trans (Bl.mono BW3.out.size))
    have KWm := Lib.hid (KWl.out.trans (Bm.mono KWl.out.size))
    have N1 : Nums .u8 Wl (w3.heap.size + 1) (some ⟨w3.heap.size, 0, none⟩) 4 [96, 0, 0, 0] := by rw [hWl]; exact lit_nums .u8 w3 [96, 0, 0, 0] 5 _ rfl 4 rfl
    have N2 : Nums .u64 Wm (Wl.heap.size + 1) (some ⟨Wl.heap.size, 0, none⟩) 1 [S] := by rw [hWm]; exact lit_nums .u64 Wl [S] 50 _ rfl 1 rfl
    have sm : Wm.heap.size = Wl.heap.size + 1 := by rw [hWm]; exact alloc_size _ _
    have PU := Lib.hid (kdC.put_key (w := Wm) (A := some ⟨w3.heap.size, 0, none⟩) (n := 4) (c := 4) (P := some ⟨Wl.heap.size, 0, none⟩) (m := 1) (c2 := 1) (bs := [96, 0, 0, 0]) (ns := [S]) 2 2 6 T1 rfl (by decide) ⟨(N1.below (Bm.mono (by omega))).more (by omega), (by unfold Byte; simp), (by decide), (by decide)⟩ (N2.more (by omega)) (by decide) (by decide) ET1.out LT1.out)
    rw [sl] at PU
    have ws : IntKind.i64.wrap ((n : Int)) = S := by first | exact WS.out | (have h := WS.out; rw [show ((0 : Nat) : Int) + (n : Int) = (n : Int) by omega] at h; exact h)
    have vs := VS.out
    have k40 := K40.out Wl (BWW.out.trans (Bl.mono BWW.out.size))
    rw [hWl] at k40
    clear N1 N2
    go_upto_region 7 with (first
      | (rw [← hWl, ← hWm]; go_at_call 23; (refine PU.out.mono ?_); rintro e w5 ⟨A5, c5, rfl, O5, K5, B5⟩
         have HO := Lib.hid O5
         have BW5 := Lib.hid (KWm.out.trans (B5.mono KWm.out.size))
         have B35 := Lib.hid ((Bl.trans (Bm.mono Bl.size)).trans (B5.mono (by omega)))
         have LM := Lib.hid (show w3.heap.size ≤ Wm.heap.size by omega)
         clear O5 K5 B5))
    clear k40 ws vs PU
    obtain ⟨B, hB⟩ : ∃ B, B = Wm.heap.size := ⟨_, rfl⟩
    have HB5 := Lib.hid (show B ≤ w5.heap.size by rw [hB]; have h1 := HO.out.blk; have := B35.out.size; obtain ⟨g5, _, h2, h3, _⟩ := HO.out.row (by decide); omega)
    have LMB := Lib.hid (show w3.heap.size ≤ B by rw [hB]; exact LM.out)
    rw [← hB] at HO
    clear hB hWm hWl Bl Bm sl sm LM KWl KWm
    have k35 := K35.out w5 (BWW.out.trans (B35.out.mono BWW.out.size))
    have n2 := Lib.hid (lit_nums .u8 w5 [nx, ho] 5 _ rfl 2 rfl)
    have O3 := Lib.hid (HO.out.alloc (.cells #[.int .u8 nx, .int .u8 ho] 5))
    have S3 := Lib.hid (show B ≤ (w5.alloc (.cells #[.int .u8 nx, .int .u8 ho] 5)).heap.size by rw [alloc_size]; have := HB5.out; omega)
    have NB3 := Lib.hid (alloc_below w5 (.cells #[.int .u8 nx, .int .u8 ho] 5))
    go_upto_region 8 with (at_builtin
                           (refine wpList_app _ rfl (.tmp 27) (.tmp 31) _ rfl 5 i0 _ 1 Try.underlying26 T1'.out T2.out T3.out T4.out rfl B _ T1 rfl O3.out (w5.heap.size + 1) _ 2 2 [nx, ho] rfl n2.out (by rw [LT1.out]; unfold maxLen; omega) (by rw [LT1.out]; omega) S3.out ?_)
                           intro v4 w4 O hg
                           obtain ⟨AH, cH, ev, g1, g2, NH⟩ := O.form
                           rw [EH.out, L8.out] at ev g1 NH
                           subst ev
                           have HNH := Lib.hid NH
                           have B34 := Lib.hid (show Below B w5 w4 from Below.grown (NB3.out.mono HB5.out) hg S3.out fun q hq => (O3.out.blk q hq).1)
                           clear O hg g1 g2 NH)
    clear n2 O3 S3 NB3 k35 HO
    have BW4 := Lib.hid (BW5.out.trans (B34.out.mono (by have := LMB.out; have := BW3.out.size; omega)))
    have KW4 := Lib.hid (show Below W.heap.size W w4 from BWW.out.trans ((B35.out.trans (B34.out.mono LMB.out)).mono BWW.out.size))
    have SA := Lib.hid (fun w' (h : Gr w4 w') => SA0.out w' (KW4.out.trans (Below.mono h KW4.out.size)))
    have SB := Lib.hid (fun w' (h : Gr w4 w') => SB0.out w' (KW4.out.trans (Below.mono h KW4.out.size)))
    have K40 := Lib.hid (fun w' (h : Gr w4 w') => K40.out w' (KW4.out.trans (Below.mono h KW4.out.size)))
    have B3w4 := Lib.hid (show Below w3.heap.size w3 w4 from B35.out.trans (B34.out.mono LMB.out))
    have PH := Lib.hid (fun w' (h : Gr w4 w') => (show chkC.PartAt w' w'.heap.size ⟨AH, 8, cH, H⟩ from ⟨(HNH.out.below h).more (Below.size h), (show 8 ≤ 10000 by decide), YH.out⟩))
    have PK := Lib.hid (fun w' (h : Gr w4 w') => (show chkC.PartAt w' w'.heap.size ⟨AK, 0, cK, []⟩ from ⟨((NK3.out.below B3w4.out).more B3w4.out.size).below h |>.more (Below.size h), (show 0 ≤ 10000 by decide), YK.out⟩))
    have PX := Lib.hid (fun w' (h : Gr w4 w') => (show chkC.PartAt w' w'.heap.size ⟨A, n, c, xs⟩ from ⟨HX0.out w' (KW4.out.trans (Below.mono h KW4.out.size)), (show n ≤ 10000 by have := hn9.out; omega), HY.out⟩))
    have LG0 := Lib.hid (show w.heap.size ≤ w4.heap.size from BW4.out.size)
    clear B35 B34 B3w4 KW4 BW5 HB5 LMB NK3 HNH BWW BW3 SA0 SB0
    refine with_act fun a0 ha0 => ?_
    have hl : l8T.length = a0.tmps.size := by rw [ha0]; rfl
    have k1 : a0.tmps[1]?.getD undef = .pointer (some ⟨w.heap.size, 0, none⟩) := by rw [ha0]; rfl
    have k5 : a0.tmps[5]?.getD undef = .slice AK 0 cK := by rw [ha0]; rfl
    have k6 : a0.tmps[6]?.getD undef = .slice AH 8 cH := by rw [ha0]; rfl
    refine wp_region_vals (by kernel_rfl) l8T (by kernel_rfl) (by kernel_rfl) hl (fun i => if i = 12 then a0.tmps[2]?.getD undef else if i = 13 then .int .i64 0 else undef) (by rw [ha0]; rfl) (Gr w4) (l8V w.heap.size A n c LA LB sa sb H [] X AH cH AK 0 cK NN) (gr_drew _) (l8V.keep _ _ _ _ _ _ _ _ _ _ _ _ _ _ _ _ _) ⟨?_, ?_, ?_, ?_, ?_, ?_, ?_, ?_, ?_, ?_, ?_, ?_, ?_, ?_, trivial⟩ ?_
    · refine step_plain [] (by kernel_rfl) rfl fun us w' hG hV => ?_
      have o6 := (frame_old2 (us := us) (a := a0) (show (l8T[6]?).join = none from rfl)).trans k6
      generalize frame l8T a0 us = fr at *
      exact val_ok (v := .slice AH 8 cH) (w' := w') (by go_simp) hG (Below.refl _ _) rfl
    · refine step_plain [] (by kernel_rfl) rfl fun us w' hG hV => ?_
      have o1 := (frame_old2 (us := us) (a := a0) (show (l8T[1]?).join = none from rfl)).trans k1
      generalize frame l8T a0 us = fr at *
      exact val_ok (v := .pointer (some ⟨w.heap.size, 0, none⟩)) (w' := w') (by go_simp) hG (Below.refl _ _) rfl
    · refine step_plain [1] (by kernel_rfl) rfl fun us w' hG hV => ?_
      have e1 : us 1 = .pointer (some ⟨w.heap.size, 0, none⟩) := hV 1 (by simp)
      have v1 := (frame_at2 (us := us) hl (show (l8T[34]?).join = some 1 from rfl)).trans e1
      have hg1 := SA.out w' hG
      generalize frame l8T a0 us = fr at *
      exact val_ok (v := .agg LA.toArray) (w' := w') (loadp_run (s := 34) rfl v1 LA _ hg1 Try.underlying24 rfl IA.out) hG (Below.refl _ _) rfl
    · refine step_plain [2] (by kernel_rfl) rfl fun us w' hG hV => ?_
      have e2 : us 2 = .agg LA.toArray := hV 2 (by simp)
      have v2 := (frame_at2 (us := us) hl (show (l8T[35]?).join = some 2 from rfl)).trans e2
      generalize frame l8T a0 us = fr at *
      exact call_ok (f := 25) (args := #[.agg LA.toArray]) (by go_simp) ((BA.out w').mono fun e w'' ⟨A', n', c', h1, h2, h3, h4, h5, h6⟩ => by
        obtain rfl : 16 = n' := ZA.out.symm.trans h2
        exact ⟨_, h1, hG.below h6, h6, A', c', rfl, h5.nums, (show 16 ≤ 10000 by decide), YA.out⟩)
    · refine step_plain [] (by kernel_rfl) rfl fun us w' hG hV => ?_
      have o1 := (frame_old2 (us := us) (a := a0) (show (l8T[1]?).join = none from rfl)).trans k1
      generalize frame l8T a0 us = fr at *
      exact val_ok (v := .pointer (some ⟨w.heap.size, 17, none⟩)) (w' := w') (by go_simp) hG (Below.refl _ _) rfl
    · refine step_plain [4] (by kernel_rfl) rfl fun us w' hG hV => ?_
      have e4 : us 4 = .pointer (some ⟨w.heap.size, 17, none⟩) := hV 4 (by simp)
      have v4 := (frame_at2 (us := us) hl (show (l8T[37]?).join = some 4 from rfl)).trans e4
      have hg1 := SB.out w' hG
      generalize frame l8T a0 us = fr at *
      exact val_ok (v := .agg LB.toArray) (w' := w') (loadp_run (s := 37) rfl v4 LB _ hg1 Try.underlying24 rfl IB.out) hG (Below.refl _ _) rfl
    · refine step_plain [5] (by kernel_rfl) rfl fun us w' hG hV => ?_
      have e5 : us 5 = .agg LB.toArray := hV 5 (by simp)
      have v5 := (frame_at2 (us := us) hl (show (l8T[38]?).join = some 5 from rfl)).trans e5
      generalize frame l8T a0 us = fr at *
      exact call_ok (f := 25) (args := #[.agg LB.toArray]) (by go_simp) ((BB.out w').mono fun e w'' ⟨A', n', c', h1, h2, h3, h4, h5, h6⟩ => by
        obtain rfl : 16 = n' := ZB.out.symm.trans h2
        exact ⟨_, h1, hG.below h6, h6, A', c', rfl, h5.nums, (show 16 ≤ 10000 by decide), YB.out⟩)
    · refine step_plain [] (by kernel_rfl) rfl fun us w' hG hV => ?_
      have o5 := (frame_old2 (us := us) (a := a0) (show (l8T[5]?).join = none from rfl)).trans k5
      generalize frame l8T a0 us = fr at *
      exact val_ok (v := .slice AK 0 cK) (w' := w') (by go_simp) hG (Below.refl _ _) rfl
    · refine step_plain [] (by kernel_rfl) rfl fun us w' hG hV => ?_
      have o1 := (frame_old2 (us := us) (a := a0) (show (l8T[1]?).join = none from rfl)).trans k1
      generalize frame l8T a0 us = fr at *
      exact val_ok (v := .pointer (some ⟨w.heap.size, 40, none⟩)) (w' := w') (by go_simp) hG (Below.refl _ _) rfl
    · refine step_plain [8] (by kernel_rfl) rfl fun us w' hG hV => ?_
      have e8 : us 8 = .pointer (some ⟨w.heap.size, 40, none⟩) := hV 8 (by simp)
      have v8 := (frame_at2 (us := us) hl (show (l8T[41]?).join = some 8 from rfl)).trans e8
      have hc := K40.out w' hG
      generalize frame l8T a0 us = fr at *
      exact val_ok (v := .slice A n c) (w' := w') (by go_simp) hG (Below.refl _ _) rfl
    · refine step_plain [0, 3, 6, 7, 9] (by kernel_rfl) rfl fun us w' hG hV => ?_
      have e0 : us 0 = .slice AH 8 cH := hV 0 (by simp)
      have v0 := (frame_at2 (us := us) hl (show (l8T[33]?).join = some 0 from rfl)).trans e0
      obtain ⟨A3, c3, e3, P3⟩ := (show ∃ A' c', us 3 = .slice A' 16 c' ∧ chkC.PartAt w' w'.heap.size ⟨A', 16, c', sa⟩ from hV 3 (by simp))
      have v3 := (frame_at2 (us := us) hl (show (l8T[36]?).join = some 3 from rfl)).trans e3
      obtain ⟨A6, c6, e6, P6⟩ := (show ∃ A' c', us 6 = .slice A' 16 c' ∧ chkC.PartAt w' w'.heap.size ⟨A', 16, c', sb⟩ from hV 6 (by simp))
      have v6 := (frame_at2 (us := us) hl (show (l8T[39]?).join = some 6 from rfl)).trans e6
      have e7 : us 7 = .slice AK 0 cK := hV 7 (by simp)
      have v7 := (frame_at2 (us := us) hl (show (l8T[40]?).join = some 7 from rfl)).trans e7
      have e9 : us 9 = .slice A n c := hV 9 (by simp)
      have v9 := (frame_at2 (us := us) hl (show (l8T[42]?).join = some 9 from rfl)).trans e9
      generalize frame l8T a0 us = fr at *
      exact val_ok (v := .slice (some ⟨w'.heap.size, 0, none⟩) 5 5) (w' := w'.alloc (.cells #[.slice AH 8 cH, .slice A3 16 c3, .slice A6 16 c6, .slice AK 0 cK, .slice A n c] 26)) (by go_simp) (hG.below (alloc_below _ _)) (alloc_below _ _) ⟨_, A3, c3, A6, c6, rfl, heap_alloc_new _ _, P3.below (alloc_below _ _) (alloc_below _ _).size, P6.below (alloc_below _ _) (alloc_below _ _).size⟩
    · refine step_plain [10] (by kernel_rfl) rfl fun us w' hG hV => ?_
      obtain ⟨q10, A10, c10, B10, d10, e10, r10, P10, Q10⟩ := (show ∃ q A' c' A'' c'', us 10 = .slice (some ⟨q, 0, none⟩) 5 5 ∧ w'.heap[q]? = some (.cells #[.slice AH 8 cH, .slice A' 16 c', .slice A'' 16 c'', .slice AK 0 cK, .slice A n c] 26 (0, 0)) ∧ chkC.PartAt w' w'.heap.size ⟨A', 16, c', sa⟩ ∧ chkC.PartAt w' w'.heap.size ⟨A'', 16, c'', sb⟩ from hV 10 (by simp))
      have v10 := (frame_at2 (us := us) hl (show (l8T[43]?).join = some 10 from rfl)).trans e10
      have CC := chkC.concat_any (some ⟨q10, 0, none⟩) 5 5 NN _ w' (parts_row5 r10 (PH.out w' hG) P10 Q10 (PK.out w' hG) (PX.out w' hG)) (by decide) rfl (by simp only [chkC.nsum]; have := ENN.out; omega) (by have := NP.out; omega) (by have := NP.out; omega)
      have hcat : chkC.catL [⟨AH, 8, cH, H⟩, ⟨A10, 16, c10, sa⟩, ⟨B10, 16, d10, sb⟩, ⟨AK, 0, cK, []⟩, ⟨A, n, c, xs⟩] = X := by rw [← EXX.out]; simp [chkC.catL]
      rw [hcat] at CC
      generalize frame l8T a0 us = fr at *
      exact call_ok (f := 24) (args := #[.slice (some ⟨q10, 0, none⟩) 5 5]) (by go_simp) (CC.mono fun e w'' ⟨A', c', h1, h2, h3, h4, h5⟩ => ⟨_, h1, hG.below h5, h5, A', c', rfl, h4.less (Nat.le_trans LG0.out (Below.size hG))⟩)
    · refine step_plain [11] (by kernel_rfl) rfl fun us w' hG hV => ?_
      obtain ⟨A11, c11, e11, P11⟩ := (show ∃ A' c', us 11 = .slice A' NN c' ∧ Own .u8 5 w' w.heap.size (.slice A' NN c') X from hV 11 (by simp))
      have v11 := (frame_at2 (us := us) hl (show (l8T[44]?).join = some 11 from rfl)).trans e11
      generalize frame l8T a0 us = fr at *
      exact val_ok (v := .slice A11 NN c11) (w' := w') (by go_simp) hG (Below.refl _ _) ⟨A11, c11, rfl, P11⟩
    · refine step_plain [] (by kernel_rfl) rfl fun us w' hG hV => ?_
      generalize frame l8T a0 us = fr at *
      exact val_ok (v := .int .i64 0) (w' := w') (by go_simp) hG (Below.refl _ _) rfl
    · intro us w5 hG hV
      obtain ⟨AX, cX, e12, OX⟩ := (show ∃ A' c', us 12 = .slice A' NN c' ∧ Own .u8 5 w5 w.heap.size (.slice A' NN c') X from hV 12 (by decide))
      have e13 : us 13 = .int .i64 0 := hV 13 (by decide)
      subst ha0
      simp only [frame, l8T, fill]
      rw [e12, e13]
      have HO := Lib.hid OX
      have HG5 := Lib.hid hG
      clear hV hl hG OX k1 k5 k6 e12 e13
      go_wp2_with fail
      go_ret2
      exact ⟨AX, NN, cX, rfl, HO.out, BW4.out.trans (Below.mono HG5.out BW4.out.size)⟩
end Go.Proofs.Ytbhcpbihbecphaa.sxC

/-
  Regions that draw their order: an operation behind a guard that may not be wanted.
-/
namespace Go.Proofs.Ytbhcpbihbecphaa.freeC
open Go.ChangeShapes Go.WideShapes Go.ChangeAt Go.RowKit
set_option linter.unusedVariables false
section
variable {P : Program} {L : List Oper} {Q : Exit → Act → World → Prop} {o : Oper} {a : Act} {tab : List (Option Nat)} {G : World → Prop} {V : Nat → Value → World → Prop} {i : Nat}
/-- an operation whose guard may say either -/
theorem step_cnd (need : List Nat) (hn : needs o need = true) {j t : Nat} (hg : o.guard = some (j, true)) (hj : j ∈ need) (hL : (L[j]?).bind (·.dst) = some t) (hl : tab.length = a.tmps.size) (ht : (tab[t]?).join = some j) (c : Bool)
    (hv : ∀ v w, V j v w → v = .bool c) (hu : c = false → ∀ w, V i undef w)
    (h : c = true → ∀ us w, G w → (∀ j, j ∈ need → V j (us j) w) → o.wp P (frame tab a us) w (fun a' w' => ∃ v, a' = (frame tab a us).put o.dst v ∧ G w' ∧ Below w.heap.size w w' ∧ V i v w') Q) : Step P L Q tab a G V i o := by
  intro m us w hG hV hd
  have hy := yield_at (L := L) (us := us) hl hL ht (hv _ _ (hV j (need_ok hn hd j hj)))
  cases c
  · rw [if_neg (by simp [Region.wanted, hg, hy])]
    exact hu rfl w
  · rw [if_pos (show Region.wanted o (yielded L.toArray (frame tab a us).tmps) = true by simp [Region.wanted, hg, hy])]
    exact h rfl us w hG fun j hj => hV j (need_ok hn hd j hj)
end
end Go.Proofs.Ytbhcpbihbecphaa.freeC
