/-
  6 texts of a proof, joined.
-/
import Derived.Test.YtniimgbljhmcoaaDoorMg38
import Derived.Test.YtniimgbljhmcoaaDoorMg2
import Derived.ProofKit
import Derived.OpenShut
import Derived.Outline
import Derived.Below
import Derived.Deep.QuietTactic
import Derived.BigQuiet
import Derived.Lib.Hide
import Derived.Laws.BitsAllLaws
import Derived.IntWalk

/-
  A segment without its first, without its last number: the document's.
-/
namespace Go.Proofs.YtniimgbljhmcoaaDoor.sgC
open Go.ChangeShapes Go.WideShapes Go.ChangeAt Go.RowKit
open Go.Proofs.YtniimgbljhmcoaaDoor.memC Go.Proofs.YtniimgbljhmcoaaDoor.genC Go.Proofs.YtniimgbljhmcoaaDoor.butC Go.Proofs.YtniimgbljhmcoaaDoor.freeC Go.Proofs.YtniimgbljhmcoaaDoor.adC
open Go.Proofs.YtniimgbljhmcoaaDoor.opC (zOpt zOpt_ok U32 Prs OwnP)
set_option linter.unusedVariables false
set_option linter.unusedSimpArgs false
def fstF (f : Int) (m : Nat) : Int := if syN f = 1 then flF f 0 (fiN f) else if 0 < m then f else flF f (syN f) 0
def fstL (f : Int) (xs : List Int) : List Int := if syN f = 1 then xs else xs.drop 1
def lstF (f : Int) (m : Nat) : Int := if fiN f = 1 then flF f (syN f) 0 else if 0 < m then f else flF f 0 (fiN f)
def lstL (f : Int) (xs : List Int) : List Int := if fiN f = 1 then xs else xs.take (xs.length - 1)
def FsR (w : World) (b : Nat) (s : Sg) (A : Option Addr) (n c : Nat) (X : List Int) (e : Ending) (w' : World) : Prop :=
  ∃ B m d, e = .returned (.agg (segV s A n c B m d)) ∧ Nums .u8 w b B m X ∧ m ≤ d ∧ Below w.heap.size w w'
/-- what stands while a number is taken off -/
structure Fs (w0 w : World) (s : Sg) (A : Option Addr) (n c : Nat) (B : Option Addr) (m d : Nat) : Prop where
  row : SegAt w w0.heap.size s A n c B m d
  res : SegAt w (w0.heap.size + 1) zSg none 0 0 none 0 0
  bel : Below w0.heap.size w0 w
section
variable {w0 w w' : World} {s s' : Sg} {A A' : Option Addr} {n c n' c' : Nat} {B B' : Option Addr} {m d m' d' : Nat}
theorem Fs.next (h : Fs w0 w s A n c B m d) (q : Below w.heap.size w w') : Fs w0 w' s A n c B m d := ⟨h.row.bel q, h.res.bel q, h.bel.trans (q.mono h.bel.size)⟩
theorem Fs.set_ (h : Fs w0 w s A n c B m d) (j : Nat) (v : Value) (e : (segV s A n c B m d).setIfInBounds j v = segV s' A' n' c' B' m' d') : Fs w0 (w.setCell ⟨w0.heap.size, j, none⟩ v) s' A' n' c' B' m' d' :=
  ⟨h.row.set_ j v e, h.res.other (by show w0.heap.size ≠ w0.heap.size + 1; omega) v, h.bel.setCell (Nat.le_refl _) v⟩
theorem Fs.box (w : World) (s : Sg) (A : Option Addr) (n c : Nat) (B : Option Addr) (m d : Nat) {W : World} (hW : W = (w.alloc (.cells (segV s A n c B m d) 34)).alloc (.cells (segV zSg none 0 0 none 0 0) 34)) : Fs w W s A n c B m d := by
  have e1 : (w.alloc (.cells (segV s A n c B m d) 34)).heap.size = w.heap.size + 1 := alloc_size _ _
  refine ⟨?_, ?_, by rw [hW]; exact ((Below.refl _ _).alloc (Nat.le_refl _) _).alloc (by simp) _⟩
  · unfold SegAt; rw [hW, Below.block (alloc_below _ _) _ (by rw [e1]; omega)]; exact heap_alloc_new w _
  · unfold SegAt; rw [hW, ← e1]; exact heap_alloc_new _ _
end
theorem cut_head (A : Option Addr) (n c k : Nat) (h : k ≤ c) (w : World) : (Instr.slice 32 (.slice A n c) none (some (.int .i64 (k : Int))) none).run Tryd.prog w = .ok (.slice A k c) w := by
  have k1 : (k : Int) ≤ (c : Int) := by omega
  have k2 : (0 : Int) ≤ (k : Int) := by omega
  go_simp
theorem nums_head {w : World} {B : Nat} {A : Option Addr} {m d : Nat} {xs : List Int} (h : Nums .u8 w B A m xs) : Nums .u8 w B A (m - 1) (xs.take (xs.length - 1)) := by
  rw [h.len]; exact h.upto (by omega)
theorem nums_one {w : World} {B : Nat} {A : Option Addr} {m d : Nat} {xs : List Int} (h : Nums .u8 w B A m xs) (hd : m ≤ d) (hm : 0 < m) : Nums .u8 w B (if d = 1 then A else A.map (·.add 1)) (m - 1) (xs.drop 1) := by
  have h9 := nums_cut h (lo := 1) (hi := m) hm (Nat.le_refl _) hd
  rw [List.take_of_length_le (by have := h.len; omega)] at h9
  exact h9
set_option maxRecDepth 100000 in
set_option maxHeartbeats 8000000 in
theorem rfirst_any (s : Sg) (A : Option Addr) (n c : Nat) (B : Option Addr) (m d : Nat) (xs : List Int) (w : World) (hs : s.op.mac.length = 12) (hf : Byte s.fl) (b : Nat) (hx : Nums .u8 w b B m xs) (hm : m ≤ 100000) (hmd : m ≤ d) :
    Calls Tryd.prog 55 #[.agg (segV s A n c B m d)] w (FsR w b { s with fl := fstF s.fl m, sq := ((s.sq + 1) % 4294967296) } A n c (fstL s.fl xs)) := by
  have hzv := zeroSeg
  have hxl := hx.len
  have e1 : (w.alloc (.cells (segV s A n c B m d) 34)).heap.size = w.heap.size + 1 := alloc_size _ _
  obtain ⟨W, hW⟩ : ∃ W, W = (w.alloc (.cells (segV s A n c B m d) 34)).alloc (.cells (segV zSg none 0 0 none 0 0) 34) := ⟨_, rfl⟩
  have F0 := Lib.hid (Fs.box w s A n c B m d hW)
  have IC := Lib.hid (segC hs A n c B m d).info
  have HM := Lib.hid hs
  have hqb := syN_bd s.fl
  have HA := Lib.hid (fun w' => rhas_any s A n c B m d 2 w' hs)
  rw [has_syn hf] at HA
  have RC := Lib.hid (F0.out.row.row)
  have WS := IntWalk.i64_in ((m : Int) - 1) (by omega)
  obtain ⟨s9, hs9⟩ : ∃ q : Sg, q = { s with fl := fstF s.fl m, sq := ((s.sq + 1) % 4294967296) } := ⟨_, rfl⟩
  have HM9 := Lib.hid (show s9.op.mac.length = 12 by rw [hs9]; exact hs)
  rw [← hs9]
  obtain ⟨X9, hX9⟩ : ∃ q, q = fstL s.fl xs := ⟨_, rfl⟩
  rw [← hX9]
  unfold fstF at hs9
  unfold fstL at hX9
  have SZ := Lib.hid (fun (B' : Option Addr) (m' d' : Nat) => seg_size (s := zSg) (s' := s9) zOpt_ok.lm HM9.out none A 0 0 n c none B' 0 0 m' d')
  obtain ⟨CP, hCP⟩ : ∃ C, C = segV s A n c B m d := ⟨_, rfl⟩
  simp only [← hCP] at HA RC IC hW e1 ⊢
  clear hCP
  by_cases c1 : syN s.fl = 1
  · rw [if_pos c1] at hs9 hX9
    rw [decide_eq_true c1] at HA
    have E9 := Lib.hid (show s9 = { s with fl := bits .andNot .u8 s.fl 2, sq := ((s.sq + 1) % 4294967296) } by rw [hs9, not_syn hf]; unfold flF; (try simp only [Int.mul_zero, Int.add_zero]))
    have NX := Lib.hid (show Nums .u8 w b B m X9 by rw [hX9]; exact hx)
    have HMD := Lib.hid hmd
    clear hs9 hX9 c1 hx hf hqb hxl
    go_enter Tryd.func55, Tryd.ntmps55
    go_upto_region 2 with fail
    rw [← hW]
    clear hW hzv e1
    go_upto_region 3 with (first
      | (refine wpList_load_row rfl 34 (.tmp 1) rfl w.heap.size rfl _ _ _ _ RC.out Tryd.underlying34 rfl IC.out ?_)
      | (go_at_call 20; (refine (HA.out _).mono ?_); rintro e w3 ⟨rfl, BB⟩
         have P3 := Lib.hid (F0.out.next BB)
         have kfl := pkC.PkC.cell P3.out.row.row (segC HM.out A n c B m d).fl
         have ffl := P3.out.row.frozen 4
         have kda := pkC.PkC.cell P3.out.row.row (segC HM.out A n c B m d).da
         have fda := P3.out.row.frozen 31
         clear BB))
    clear F0
    go_upto_region 6 with fail
    have P4 := Lib.hid (P3.out.set_ (s' := { s with fl := bits .andNot .u8 s.fl 2 }) 4 (.int .u8 (bits .andNot .u8 s.fl 2)) (segV_fl _))
    generalize (w3.setCell ⟨w.heap.size, 4, none⟩ (.int .u8 (bits .andNot .u8 s.fl 2))) = w4 at *
    clear kfl ffl kda fda P3 RC
     
    have kq := pkC.PkC.cell P4.out.row.row (segC (s := { s with fl := bits .andNot .u8 s.fl 2 }) HM.out A n c B m d).sq
    have fq := P4.out.row.frozen 2
    go_upto_region 7 with fail
    have P5 := Lib.hid (P4.out.set_ (s' := s9) 2 (.int .u32 (((s.sq + 1) % 4294967296))) (by rw [E9.out]; exact segV_sq _))
    generalize (w4.setCell ⟨w.heap.size, 2, none⟩ (.int .u32 (((s.sq + 1) % 4294967296)))) = w5 at *
    clear kq fq P4
    have RW := Lib.hid P5.out.row.row
    have ZW := Lib.hid P5.out.res.row
    have FW := Lib.hid P5.out.bel
    have IA := Lib.hid (segC HM9.out A n c B m d).info
    have SA := Lib.hid (SZ.out B m d)
    have OA := Lib.hid (seg_one s9 A n c B m d)
    obtain ⟨CA, hCA⟩ : ∃ C, C = segV s9 A n c B m d := ⟨_, rfl⟩
    rw [← hCA] at RW IA SA OA
    have HCA := Lib.hid hCA
    clear hCA P5
    go_wp2_with (first
      | (refine wpList_load_row rfl 34 (.tmp 1) rfl w.heap.size rfl _ _ _ _ RW.out Tryd.underlying34 rfl IA.out ?_)
      | (refine wpList_store_row rfl 34 (.tmp 2) (.tmp 27) rfl (w.heap.size + 1) CA rfl rfl _ _ ZW.out IA.out SA.out OA.out ?_))
    refine bodyPost_ret (v := .agg CA) (Go.results_cell_row Tryd.results55 _ _ (w.heap.size + 1) _ _ _ _ (by rfl) (setRow_heap _ _ _ _ _ _ ZW.out) Tryd.underlying34 rfl IA.out) rfl ?_
    exact ⟨B, m, d, by rw [HCA.out], NX.out, HMD.out, aesC.below_setRow FW.out (by omega) _⟩
  rw [if_neg c1] at hs9 hX9
  rw [decide_eq_false c1] at HA
  by_cases c2 : 0 < m
  · rw [if_pos c2] at hs9
    have E9 := Lib.hid (show s9 = { s with fl := s.fl, sq := ((s.sq + 1) % 4294967296) } by rw [hs9])
    have c3 : (0 : Int) < (m : Int) := by omega
    obtain ⟨B1, hB1⟩ : ∃ q, q = (if d = 1 then B else B.map (·.add 1)) := ⟨_, rfl⟩
    have hsc : ∀ w', (Instr.slice 32 (.slice B m d) (some (.int .i64 1)) none none).run Tryd.prog w' = .ok (.slice B1 (m - 1) (d - 1)) w' := fun w' => by rw [hB1]; exact pkC.cut_tail B m d 1 c2 hmd w'
    have NX := Lib.hid (show Nums .u8 w b B1 (m - 1) X9 by rw [hX9, hB1]; exact nums_one hx hmd c2)
    clear hB1
    have HMD := Lib.hid (show (m - 1) ≤ (d - 1) by omega)
    clear hs9 hX9 c1 hx hf hqb hxl WS hmd c2 hm
    go_enter Tryd.func55, Tryd.ntmps55
    go_upto_region 2 with fail
    rw [← hW]
    clear hW hzv e1
    go_upto_region 4 with (first
      | (refine wpList_load_row rfl 34 (.tmp 1) rfl w.heap.size rfl _ _ _ _ RC.out Tryd.underlying34 rfl IC.out ?_)
      | (go_at_call 20; (refine (HA.out _).mono ?_); rintro e w3 ⟨rfl, BB⟩
         have P3 := Lib.hid (F0.out.next BB)
         have kfl := pkC.PkC.cell P3.out.row.row (segC HM.out A n c B m d).fl
         have ffl := P3.out.row.frozen 4
         have kda := pkC.PkC.cell P3.out.row.row (segC HM.out A n c B m d).da
         have fda := P3.out.row.frozen 31
         clear BB))
    clear F0
    go_upto_region 5 with fail
    go_upto_region 6 with fail
    have P4 := Lib.hid (P3.out.set_ (s' := s) 31 (.slice B1 (m - 1) (d - 1)) (segV_da HM.out))
    generalize (w3.setCell ⟨w.heap.size, 31, none⟩ (.slice B1 (m - 1) (d - 1))) = w4 at *
    clear kfl ffl kda fda P3 RC hsc
     
    have kq := pkC.PkC.cell P4.out.row.row (segC (s := s) HM.out A n c B1 (m - 1) (d - 1)).sq
    have fq := P4.out.row.frozen 2
    go_upto_region 7 with fail
    have P5 := Lib.hid (P4.out.set_ (s' := s9) 2 (.int .u32 (((s.sq + 1) % 4294967296))) (by rw [E9.out]; exact segV_sq _))
    generalize (w4.setCell ⟨w.heap.size, 2, none⟩ (.int .u32 (((s.sq + 1) % 4294967296)))) = w5 at *
    clear kq fq P4
    have RW := Lib.hid P5.out.row.row
    have ZW := Lib.hid P5.out.res.row
    have FW := Lib.hid P5.out.bel
    have IA := Lib.hid (segC HM9.out A n c B1 (m - 1) (d - 1)).info
    have SA := Lib.hid (SZ.out B1 (m - 1) (d - 1))
    have OA := Lib.hid (seg_one s9 A n c B1 (m - 1) (d - 1))
    obtain ⟨CA, hCA⟩ : ∃ C, C = segV s9 A n c B1 (m - 1) (d - 1) := ⟨_, rfl⟩
    rw [← hCA] at RW IA SA OA
    have HCA := Lib.hid hCA
    clear hCA P5
    go_wp2_with (first
      | (refine wpList_load_row rfl 34 (.tmp 1) rfl w.heap.size rfl _ _ _ _ RW.out Tryd.underlying34 rfl IA.out ?_)
      | (refine wpList_store_row rfl 34 (.tmp 2) (.tmp 27) rfl (w.heap.size + 1) CA rfl rfl _ _ ZW.out IA.out SA.out OA.out ?_))
    refine bodyPost_ret (v := .agg CA) (Go.results_cell_row Tryd.results55 _ _ (w.heap.size + 1) _ _ _ _ (by rfl) (setRow_heap _ _ _ _ _ _ ZW.out) Tryd.underlying34 rfl IA.out) rfl ?_
    exact ⟨B1, (m - 1), (d - 1), by rw [HCA.out], NX.out, HMD.out, aesC.below_setRow FW.out (by omega) _⟩
  · rw [if_neg c2] at hs9
    have E9 := Lib.hid (show s9 = { s with fl := bits .andNot .u8 s.fl 1, sq := ((s.sq + 1) % 4294967296) } by rw [hs9, not_fin hf]; unfold flF; (try simp only [Int.mul_zero, Int.add_zero]))
    obtain rfl : m = 0 := by omega
    obtain rfl : xs = [] := List.eq_nil_of_length_eq_zero hxl
    have NX := Lib.hid (show Nums .u8 w b B 0 X9 by rw [hX9]; exact hx)
    have HMD := Lib.hid hmd
    clear hs9 hX9 c1 c2 hx hf hqb hxl WS
    go_enter Tryd.func55, Tryd.ntmps55
    go_upto_region 2 with fail
    rw [← hW]
    clear hW hzv e1
    go_upto_region 4 with (first
      | (refine wpList_load_row rfl 34 (.tmp 1) rfl w.heap.size rfl _ _ _ _ RC.out Tryd.underlying34 rfl IC.out ?_)
      | (go_at_call 20; (refine (HA.out _).mono ?_); rintro e w3 ⟨rfl, BB⟩
         have P3 := Lib.hid (F0.out.next BB)
         have kfl := pkC.PkC.cell P3.out.row.row (segC HM.out A n c B 0 d).fl
         have ffl := P3.out.row.frozen 4
         have kda := pkC.PkC.cell P3.out.row.row (segC HM.out A n c B 0 d).da
         have fda := P3.out.row.frozen 31
         clear BB))
    clear F0
    go_upto_region 1 with fail
    go_upto_region 6 with fail
    have P4 := Lib.hid (P3.out.set_ (s' := { s with fl := bits .andNot .u8 s.fl 1 }) 4 (.int .u8 (bits .andNot .u8 s.fl 1)) (segV_fl _))
    generalize (w3.setCell ⟨w.heap.size, 4, none⟩ (.int .u8 (bits .andNot .u8 s.fl 1))) = w4 at *
    clear kfl ffl kda fda P3 RC
     
    have kq := pkC.PkC.cell P4.out.row.row (segC (s := { s with fl := bits .andNot .u8 s.fl 1 }) HM.out A n c B 0 d).sq
    have fq := P4.out.row.frozen 2
    go_upto_region 7 with fail
    have P5 := Lib.hid (P4.out.set_ (s' := s9) 2 (.int .u32 (((s.sq + 1) % 4294967296))) (by rw [E9.out]; exact segV_sq _))
    generalize (w4.setCell ⟨w.heap.size, 2, none⟩ (.int .u32 (((s.sq + 1) % 4294967296)))) = w5 at *
    clear kq fq P4
    have RW := Lib.hid P5.out.row.row
    have ZW := Lib.hid P5.out.res.row
    have FW := Lib.hid P5.out.bel
    have IA := Lib.hid (segC HM9.out A n c B 0 d).info
    have SA := Lib.hid (SZ.out B 0 d)
    have OA := Lib.hid (seg_one s9 A n c B 0 d)
    obtain ⟨CA, hCA⟩ : ∃ C, C = segV s9 A n c B 0 d := ⟨_, rfl⟩
    rw [← hCA] at RW IA SA OA
    have HCA := Lib.hid hCA
    clear hCA P5
    go_wp2_with (first
      | (refine wpList_load_row rfl 34 (.tmp 1) rfl w.heap.size rfl _ _ _ _ RW.out Tryd.underlying34 rfl IA.out ?_)
      | (refine wpList_store_row rfl 34 (.tmp 2) (.tmp 27) rfl (w.heap.size + 1) CA rfl rfl _ _ ZW.out IA.out SA.out OA.out ?_))
    refine bodyPost_ret (v := .agg CA) (Go.results_cell_row Tryd.results55 _ _ (w.heap.size + 1) _ _ _ _ (by rfl) (setRow_heap _ _ _ _ _ _ ZW.out) Tryd.underlying34 rfl IA.out) rfl ?_
    exact ⟨B, 0, d, by rw [HCA.out], NX.out, HMD.out, aesC.below_setRow FW.out (by omega) _⟩
set_option maxRecDepth 100000 in
set_option maxHeartbeats 8000000 in
theorem rlast_any (s : Sg) (A : Option Addr) (n c : Nat) (B : Option Addr) (m d : Nat) (xs : List Int) (w : World) (hs : s.op.mac.length = 12) (hf : Byte s.fl) (b : Nat) (hx : Nums .u8 w b B m xs) (hm : m ≤ 100000) (hmd : m ≤ d) :
    Calls Tryd.prog 56 #[.agg (segV s A n c B m d)] w (FsR w b { s with fl := lstF s.fl m } A n c (lstL s.fl xs)) := by
  have hzv := zeroSeg
  have hxl := hx.len
  have e1 : (w.alloc (.cells (segV s A n c B m d) 34)).heap.size = w.heap.size + 1 := alloc_size _ _
  obtain ⟨W, hW⟩ : ∃ W, W = (w.alloc (.cells (segV s A n c B m d) 34)).alloc (.cells (segV zSg none 0 0 none 0 0) 34) := ⟨_, rfl⟩
  have F0 := Lib.hid (Fs.box w s A n c B m d hW)
  have IC := Lib.hid (segC hs A n c B m d).info
  have HM := Lib.hid hs
  have hqb := fiN_bd s.fl
  have HA := Lib.hid (fun w' => rhas_any s A n c B m d 1 w' hs)
  rw [has_fin hf] at HA
  have RC := Lib.hid (F0.out.row.row)
  have WS := IntWalk.i64_in ((m : Int) - 1) (by omega)
  obtain ⟨s9, hs9⟩ : ∃ q : Sg, q = { s with fl := lstF s.fl m } := ⟨_, rfl⟩
  have HM9 := Lib.hid (show s9.op.mac.length = 12 by rw [hs9]; exact hs)
  rw [← hs9]
  obtain ⟨X9, hX9⟩ : ∃ q, q = lstL s.fl xs := ⟨_, rfl⟩
  rw [← hX9]
  unfold lstF at hs9
  unfold lstL at hX9
  have SZ := Lib.hid (fun (B' : Option Addr) (m' d' : Nat) => seg_size (s := zSg) (s' := s9) zOpt_ok.lm HM9.out none A 0 0 n c none B' 0 0 m' d')
  obtain ⟨CP, hCP⟩ : ∃ C, C = segV s A n c B m d := ⟨_, rfl⟩
  simp only [← hCP] at HA RC IC hW e1 ⊢
  clear hCP
  by_cases c1 : fiN s.fl = 1
  · rw [if_pos c1] at hs9 hX9
    rw [decide_eq_true c1] at HA
    have E9 := Lib.hid (show s9 = { s with fl := bits .andNot .u8 s.fl 1 } by rw [hs9, not_fin hf]; unfold flF; (try simp only [Int.mul_zero, Int.add_zero]))
    have NX := Lib.hid (show Nums .u8 w b B m X9 by rw [hX9]; exact hx)
    have HMD := Lib.hid hmd
    clear hs9 hX9 c1 hx hf hqb hxl
    go_enter Tryd.func56, Tryd.ntmps56
    go_upto_region 2 with fail
    rw [← hW]
    clear hW hzv e1
    go_upto_region 3 with (first
      | (refine wpList_load_row rfl 34 (.tmp 1) rfl w.heap.size rfl _ _ _ _ RC.out Tryd.underlying34 rfl IC.out ?_)
      | (go_at_call 20; (refine (HA.out _).mono ?_); rintro e w3 ⟨rfl, BB⟩
         have P3 := Lib.hid (F0.out.next BB)
         have kfl := pkC.PkC.cell P3.out.row.row (segC HM.out A n c B m d).fl
         have ffl := P3.out.row.frozen 4
         have kda := pkC.PkC.cell P3.out.row.row (segC HM.out A n c B m d).da
         have fda := P3.out.row.frozen 31
         clear BB))
    clear F0
    go_upto_region 6 with fail
    have P4 := Lib.hid (P3.out.set_ (s' := { s with fl := bits .andNot .u8 s.fl 1 }) 4 (.int .u8 (bits .andNot .u8 s.fl 1)) (segV_fl _))
    generalize (w3.setCell ⟨w.heap.size, 4, none⟩ (.int .u8 (bits .andNot .u8 s.fl 1))) = w4 at *
    clear kfl ffl kda fda P3 RC
    have P5 := Lib.hid (show Fs w w4 s9 A n c B m d by rw [E9.out]; exact P4.out)
    generalize w4 = w5 at *
    clear P4
    have RW := Lib.hid P5.out.row.row
    have ZW := Lib.hid P5.out.res.row
    have FW := Lib.hid P5.out.bel
    have IA := Lib.hid (segC HM9.out A n c B m d).info
    have SA := Lib.hid (SZ.out B m d)
    have OA := Lib.hid (seg_one s9 A n c B m d)
    obtain ⟨CA, hCA⟩ : ∃ C, C = segV s9 A n c B m d := ⟨_, rfl⟩
    rw [← hCA] at RW IA SA OA
    have HCA := Lib.hid hCA
    clear hCA P5
    go_wp2_with (first
      | (refine wpList_load_row rfl 34 (.tmp 1) rfl w.heap.size rfl _ _ _ _ RW.out Tryd.underlying34 rfl IA.out ?_)
      | (refine wpList_store_row rfl 34 (.tmp 2) (.tmp 27) rfl (w.heap.size + 1) CA rfl rfl _ _ ZW.out IA.out SA.out OA.out ?_))
    refine bodyPost_ret (v := .agg CA) (Go.results_cell_row Tryd.results56 _ _ (w.heap.size + 1) _ _ _ _ (by rfl) (setRow_heap _ _ _ _ _ _ ZW.out) Tryd.underlying34 rfl IA.out) rfl ?_
    exact ⟨B, m, d, by rw [HCA.out], NX.out, HMD.out, aesC.below_setRow FW.out (by omega) _⟩
  rw [if_neg c1] at hs9 hX9
  rw [decide_eq_false c1] at HA
  by_cases c2 : 0 < m
  · rw [if_pos c2] at hs9
    have E9 := Lib.hid (show s9 = { s with fl := s.fl } by rw [hs9])
    have c3 : (0 : Int) < (m : Int) := by omega
    have hwm : IntKind.i64.wrap ((m : Int) - 1) = ((m - 1 : Nat) : Int) := by rw [WS]; omega
    have hsc : ∀ w', (Instr.slice 32 (.slice B m d) none (some (.int .i64 ((m - 1 : Nat) : Int))) none).run Tryd.prog w' = .ok (.slice B (m - 1) d) w' := fun w' => cut_head B m d (m - 1) (by omega) w'
    have NX := Lib.hid (show Nums .u8 w b B (m - 1) X9 by rw [hX9]; exact nums_head (d := d) hx)
    have HMD := Lib.hid (show (m - 1) ≤ d by omega)
    clear hs9 hX9 c1 hx hf hqb hxl WS hmd c2 hm
    go_enter Tryd.func56, Tryd.ntmps56
    go_upto_region 2 with fail
    rw [← hW]
    clear hW hzv e1
    go_upto_region 4 with (first
      | (refine wpList_load_row rfl 34 (.tmp 1) rfl w.heap.size rfl _ _ _ _ RC.out Tryd.underlying34 rfl IC.out ?_)
      | (go_at_call 20; (refine (HA.out _).mono ?_); rintro e w3 ⟨rfl, BB⟩
         have P3 := Lib.hid (F0.out.next BB)
         have kfl := pkC.PkC.cell P3.out.row.row (segC HM.out A n c B m d).fl
         have ffl := P3.out.row.frozen 4
         have kda := pkC.PkC.cell P3.out.row.row (segC HM.out A n c B m d).da
         have fda := P3.out.row.frozen 31
         clear BB))
    clear F0
    go_upto_region 5 with fail
    go_upto_region 6 with fail
    have P4 := Lib.hid (P3.out.set_ (s' := s) 31 (.slice B (m - 1) d) (segV_da HM.out))
    generalize (w3.setCell ⟨w.heap.size, 31, none⟩ (.slice B (m - 1) d)) = w4 at *
    clear kfl ffl kda fda P3 RC hsc
    have P5 := Lib.hid (show Fs w w4 s9 A n c B (m - 1) d by rw [E9.out]; exact P4.out)
    generalize w4 = w5 at *
    clear P4
    have RW := Lib.hid P5.out.row.row
    have ZW := Lib.hid P5.out.res.row
    have FW := Lib.hid P5.out.bel
    have IA := Lib.hid (segC HM9.out A n c B (m - 1) d).info
    have SA := Lib.hid (SZ.out B (m - 1) d)
    have OA := Lib.hid (seg_one s9 A n c B (m - 1) d)
    obtain ⟨CA, hCA⟩ : ∃ C, C = segV s9 A n c B (m - 1) d := ⟨_, rfl⟩
    rw [← hCA] at RW IA SA OA
    have HCA := Lib.hid hCA
    clear hCA P5
    go_wp2_with (first
      | (refine wpList_load_row rfl 34 (.tmp 1) rfl w.heap.size rfl _ _ _ _ RW.out Tryd.underlying34 rfl IA.out ?_)
      | (refine wpList_store_row rfl 34 (.tmp 2) (.tmp 27) rfl (w.heap.size + 1) CA rfl rfl _ _ ZW.out IA.out SA.out OA.out ?_))
    refine bodyPost_ret (v := .agg CA) (Go.results_cell_row Tryd.results56 _ _ (w.heap.size + 1) _ _ _ _ (by rfl) (setRow_heap _ _ _ _ _ _ ZW.out) Tryd.underlying34 rfl IA.out) rfl ?_
    exact ⟨B, (m - 1), d, by rw [HCA.out], NX.out, HMD.out, aesC.below_setRow FW.out (by omega) _⟩
  · rw [if_neg c2] at hs9
    have E9 := Lib.hid (show s9 = { s with fl := bits .andNot .u8 s.fl 2 } by rw [hs9, not_syn hf]; unfold flF; (try simp only [Int.mul_zero, Int.add_zero]))
    obtain rfl : m = 0 := by omega
    obtain rfl : xs = [] := List.eq_nil_of_length_eq_zero hxl
    have NX := Lib.hid (show Nums .u8 w b B 0 X9 by rw [hX9]; exact hx)
    have HMD := Lib.hid hmd
    clear hs9 hX9 c1 c2 hx hf hqb hxl WS
    go_enter Tryd.func56, Tryd.ntmps56
    go_upto_region 2 with fail
    rw [← hW]
    clear hW hzv e1
    go_upto_region 4 with (first
      | (refine wpList_load_row rfl 34 (.tmp 1) rfl w.heap.size rfl _ _ _ _ RC.out Tryd.underlying34 rfl IC.out ?_)
      | (go_at_call 20; (refine (HA.out _).mono ?_); rintro e w3 ⟨rfl, BB⟩
         have P3 := Lib.hid (F0.out.next BB)
         have kfl := pkC.PkC.cell P3.out.row.row (segC HM.out A n c B 0 d).fl
         have ffl := P3.out.row.frozen 4
         have kda := pkC.PkC.cell P3.out.row.row (segC HM.out A n c B 0 d).da
         have fda := P3.out.row.frozen 31
         clear BB))
    clear F0
    go_upto_region 1 with fail
    go_upto_region 6 with fail
    have P4 := Lib.hid (P3.out.set_ (s' := { s with fl := bits .andNot .u8 s.fl 2 }) 4 (.int .u8 (bits .andNot .u8 s.fl 2)) (segV_fl _))
    generalize (w3.setCell ⟨w.heap.size, 4, none⟩ (.int .u8 (bits .andNot .u8 s.fl 2))) = w4 at *
    clear kfl ffl kda fda P3 RC
    have P5 := Lib.hid (show Fs w w4 s9 A n c B 0 d by rw [E9.out]; exact P4.out)
    generalize w4 = w5 at *
    clear P4
    have RW := Lib.hid P5.out.row.row
    have ZW := Lib.hid P5.out.res.row
    have FW := Lib.hid P5.out.bel
    have IA := Lib.hid (segC HM9.out A n c B 0 d).info
    have SA := Lib.hid (SZ.out B 0 d)
    have OA := Lib.hid (seg_one s9 A n c B 0 d)
    obtain ⟨CA, hCA⟩ : ∃ C, C = segV s9 A n c B 0 d := ⟨_, rfl⟩
    rw [← hCA] at RW IA SA OA
    have HCA := Lib.hid hCA
    clear hCA P5
    go_wp2_with (first
      | (refine wpList_load_row rfl 34 (.tmp 1) rfl w.heap.size rfl _ _ _ _ RW.out Tryd.underlying34 rfl IA.out ?_)
      | (refine wpList_store_row rfl 34 (.tmp 2) (.tmp 27) rfl (w.heap.size + 1) CA rfl rfl _ _ ZW.out IA.out SA.out OA.out ?_))
    refine bodyPost_ret (v := .agg CA) (Go.results_cell_row Tryd.results56 _ _ (w.heap.size + 1) _ _ _ _ (by rfl) (setRow_heap _ _ _ _ _ _ ZW.out) Tryd.underlying34 rfl IA.out) rfl ?_
    exact ⟨B, 0, d, by rw [HCA.out], NX.out, HMD.out, aesC.below_setRow FW.out (by omega) _⟩
end Go.Proofs.YtniimgbljhmcoaaDoor.sgC

/-
  What each function of package ring, and of the document's answers, does: a contract each.
-/
namespace Go.Proofs.YtniimgbljhmcoaaDoor.ringC
open Go.ChangeShapes Go.WideShapes Go.ChangeAt Go.RowKit
open Go.Proofs.YtniimgbljhmcoaaDoor.ringM
set_option linter.unusedVariables false
theorem ret_int {k : IntKind} {a b : Int} (h : a = b) : Ending.returned (.int k a) = .returned (.int k b) := by rw [h]
theorem ret_bool {a b : Bool} (h : a = b) : Ending.returned (.bool a) = .returned (.bool b) := by rw [h]
theorem diff_any (a b : Int) (w : World) (ha : 0 ≤ a) (ha' : a ≤ 4294967295) (hb : 0 ≤ b) (hb' : b ≤ 4294967295) :
    Calls Tryd.prog 51 #[.int .u32 a, .int .u32 b] w fun e w' => e = .returned (.int .i32 (dZ a b)) ∧ w = w' := by
  go_enter Tryd.func51, Tryd.ntmps51
  go_wp2
  go_ret
  exact ⟨ret_int rfl, rfl⟩
theorem ahead_any (a b : Int) (w : World) (ha : 0 ≤ a) (ha' : a ≤ 4294967295) (hb : 0 ≤ b) (hb' : b ≤ 4294967295) :
    Calls Tryd.prog 57 #[.int .u32 a, .int .u32 b] w fun e w' => e = .returned (.int .i64 (aZ a b)) ∧ w = w' := by
  have ht := tmod_small (b - a) (by omega) (by omega)
  go_enter Tryd.func57, Tryd.ntmps57
  go_wp2
  all_goals
    go_ret
    exact ⟨ret_int (by unfold aZ; omega), rfl⟩
theorem dref_any (a b : Int) (w : World) (ha : 0 ≤ a) (ha' : a ≤ 4294967295) (hb : 0 ≤ b) (hb' : b ≤ 4294967295) :
    Calls Tryd.prog 27 #[.int .u32 a, .int .u32 b] w fun e w' => e = .returned (.int .i32 (dZ a b)) ∧ w = w' := by
  have h1 := aZ_lo a b
  have h2 := aZ_hi a b
  by_cases c : aZ a b < 2147483648
  all_goals
    go_enter Tryd.func27, Tryd.ntmps27
    go_wp2_with (go_at_call 57; refine (ahead_any _ _ _ ha ha' hb hb').mono ?_; rintro e w' ⟨rfl, rfl⟩)
    go_ret
    exact ⟨ret_int (by rw [dZ_eq]; split <;> omega), rfl⟩
theorem bf_any (a b : Int) (w : World) (ha : 0 ≤ a) (ha' : a ≤ 4294967295) (hb : 0 ≤ b) (hb' : b ≤ 4294967295) :
    Calls Tryd.prog 85 #[.int .u32 a, .int .u32 b] w fun e w' => e = .returned (.bool (bfB a b)) ∧ w = w' := by
  go_enter Tryd.func85, Tryd.ntmps85
  go_wp2_with (go_at_call 51; refine (diff_any _ _ _ ha ha' hb hb').mono ?_; rintro e w' ⟨rfl, rfl⟩)
  go_ret
  exact ⟨ret_bool rfl, rfl⟩
theorem bfref_any (a b : Int) (w : World) (ha : 0 ≤ a) (ha' : a ≤ 4294967295) (hb : 0 ≤ b) (hb' : b ≤ 4294967295) :
    Calls Tryd.prog 54 #[.int .u32 a, .int .u32 b] w fun e w' => e = .returned (.bool (bfB a b)) ∧ w = w' := by
  go_enter Tryd.func54, Tryd.ntmps54
  go_wp2_with (go_at_call 27; refine (dref_any _ _ _ ha ha' hb hb').mono ?_; rintro e w' ⟨rfl, rfl⟩)
  go_ret
  exact ⟨ret_bool rfl, rfl⟩
theorem inref_any (n a b : Int) (w : World) (hn : 0 ≤ n) (hn' : n ≤ 4294967295) (ha : 0 ≤ a) (ha' : a ≤ 4294967295) (hb : 0 ≤ b) (hb' : b ≤ 4294967295) :
    Calls Tryd.prog 28 #[.int .u32 n, .int .u32 a, .int .u32 b] w fun e w' => e = .returned (.bool (inB n a b)) ∧ w = w' := by
  go_enter Tryd.func28, Tryd.ntmps28
  go_wp2_with (go_at_call 57; refine (ahead_any _ _ _ ha ha' hn hn').mono ?_; rintro e w' ⟨rfl, rfl⟩)
  go_ret
  exact ⟨ret_bool rfl, rfl⟩
end Go.Proofs.YtniimgbljhmcoaaDoor.ringC

/-
  Contracts, more: Max, and what stands in each statement beside.
-/
namespace Go.Proofs.YtniimgbljhmcoaaDoor.ringC
open Go.ChangeShapes Go.WideShapes Go.ChangeAt Go.RowKit
open Go.Proofs.YtniimgbljhmcoaaDoor.ringM
set_option linter.unusedVariables false
theorem val_int {k : IntKind} {a b : Int} (h : a = b) : Value.int k a = .int k b := by rw [h]
theorem take_snoc (zs : List Int) (k : Nat) (h : k < zs.length) : zs.take (k + 1) = zs.take k ++ [zs.getD k 0] := by
  rw [List.take_succ_eq_append_getElem h]; simp [List.getD_eq_getElem?_getD, h]
/-- a slice of numbers that lies in memory, not nil -/
theorem max_row (n : Int) (b off len cap : Nat) (zs : List Int) (w : World) (h1 : 0 ≤ n) (h2 : n ≤ 4294967295) (hl : zs.length = len) (hm : len ≤ maxLen)
    (hc : ∀ i, i < len → w.cell? ⟨b, off + i, none⟩ = some (.int .u32 (zs.getD i 0))) (hz : ∀ x ∈ zs, 0 ≤ x ∧ x ≤ 4294967295) :
    Calls Tryd.prog 52 #[.int .u32 n, .slice (some ⟨b, off, none⟩) len cap] w fun e w' => e = .returned (.int .u32 (mxZ n zs)) ∧ w = w' := by
  unfold maxLen at hm
  have HC := Lib.hid hc
  have HZ := Lib.hid hz
  clear hc hz
  go_enter Tryd.func52, Tryd.ntmps52
  go_wp2
  go_loop [5, 11] (fun t i => ∃ k : Nat, k ≤ len ∧ i = .int .i64 k ∧ t = .int .u32 (mxZ n (zs.take k))) (fun _ i => len - (intOf i).toNat)
  case atStart => exact ⟨0, Nat.zero_le _, rfl, rfl⟩
  case round =>
    obtain ⟨k, hk, rfl, rfl⟩ := hrel
    by_cases hlt : k < len
    · have hcell := HC.out k hlt
      have hts := mxZ_snoc n (zs.take k) (zs.getD k 0)
      rw [← take_snoc zs k (by omega)] at hts
      obtain ⟨b1, b2⟩ := mxZ_bd n (zs.take k) ⟨h1, h2⟩ (fun x hx => HZ.out x (List.mem_of_mem_take hx))
      have hmem : zs.getD k 0 ∈ zs := by rw [List.getD_eq_getElem?_getD, List.getElem?_eq_getElem (by omega)]; exact List.getElem_mem _
      obtain ⟨b3, b4⟩ := HZ.out _ hmem
      clear hmem
      generalize zs.getD k 0 = z at hts hcell b3 b4
      generalize mxZ n (zs.take k) = m at hts b1 b2 ⊢
      have HT := Lib.hid hts
      clear hts
      cases hb : bfB m z
      all_goals
        go_wp2_with (go_at_call 85; refine (bf_any _ _ _ b1 b2 b3 b4).mono ?_; rintro e w' ⟨rfl, rfl⟩)
        go_round
        case rel => exact ⟨k + 1, by omega, by go_num, val_int (by rw [HT.out, hb]; rfl)⟩
        case measure => simp [intOf]; omega
    · have : k = len := by omega
      subst this
      go_wp2
      go_ret
      exact ⟨ret_int (by rw [List.take_of_length_le (by omega)]), rfl⟩
theorem max_nil (n : Int) (a : Option Addr) (cap : Nat) (w : World) :
    Calls Tryd.prog 52 #[.int .u32 n, .slice a 0 cap] w fun e w' => e = .returned (.int .u32 n) ∧ w = w' := by
  go_enter Tryd.func52, Tryd.ntmps52
  go_wp2
  go_loop [5, 11] (fun t i => i = .int .i64 0 ∧ t = .int .u32 n) (fun _ i => 0)
  case atStart => exact ⟨rfl, rfl⟩
  case round =>
    obtain ⟨rfl, rfl⟩ := hrel
    go_wp2
    go_ret
    exact ⟨rfl, rfl⟩
theorem two_row (w : World) (x y : Int) (t : TypeId) (i : Nat) (h : i < 2) : (w.alloc (.cells #[.int .u32 x, .int .u32 y] t)).cell? ⟨w.heap.size, 0 + i, none⟩ = some (.int .u32 ([x, y].getD i 0)) := by
  match i, h with
  | 0, _ => simp
  | 1, _ => simp
end Go.Proofs.YtniimgbljhmcoaaDoor.ringC

/-
  A segment within a window: the program's.
-/
namespace Go.Proofs.YtniimgbljhmcoaaDoor.sgC
open Go.ChangeShapes Go.WideShapes Go.ChangeAt Go.RowKit
open Go.Proofs.YtniimgbljhmcoaaDoor.memC Go.Proofs.YtniimgbljhmcoaaDoor.genC Go.Proofs.YtniimgbljhmcoaaDoor.butC Go.Proofs.YtniimgbljhmcoaaDoor.freeC Go.Proofs.YtniimgbljhmcoaaDoor.adC
open Go.Proofs.YtniimgbljhmcoaaDoor.opC (zOpt zOpt_ok U32 Prs OwnP)
open Go.Proofs.YtniimgbljhmcoaaDoor.ringM
set_option linter.unusedVariables false
/-- a segment of m bytes within a window -/
def trimS (s : Sg) (m : Nat) (g z : Int) : Sg := { s with sq := trQ s.sq g, fl := cutF s.fl m (trA s.sq g) (trA s.sq g + trR s.sq g z) }
def trimL (s : Sg) (xs : List Int) (g z : Int) : List Int := cutL s.fl xs (trA s.sq g) (trA s.sq g + trR s.sq g z)
theorem dZ_in {a b : Int} (ha : U32 a) (hb : U32 b) : -2147483648 ≤ dZ a b ∧ dZ a b ≤ 2147483647 := by
  unfold U32 at ha hb
  rw [dZ_eq]
  unfold aZ
  split <;> omega
theorem trQ_in {q g : Int} (hq : U32 q) (hg : U32 g) : U32 (trQ q g) := by unfold trQ; split <;> assumption
set_option maxRecDepth 100000 in
set_option maxHeartbeats 8000000 in
theorem ctrim_any (s : Sg) (A : Option Addr) (n c : Nat) (B : Option Addr) (m d : Nat) (xs : List Int) (g z : Int) (w : World) (hs : s.Ok) (hA : Prs w w.heap.size A n s.op.sk) (hn : n ≤ 100000) (hx : Nums .u8 w w.heap.size B m xs) (hm : m ≤ 100000) (hmd : m ≤ d) (hg : U32 g) (hz : U32 z) :
    Calls Tryd.prog 25 #[.agg (segV s A n c B m d), .int .u32 g, .int .u32 z] w (PtR w (trimS s m g z) n (trimL s xs g z)) := by
  have hzv := zeroSeg
  have hxl := hx.len
  have e1 : (w.alloc (.cells (segV s A n c B m d) 34)).heap.size = w.heap.size + 1 := alloc_size _ _
  obtain ⟨W, hW⟩ : ∃ W, W = (w.alloc (.cells (segV s A n c B m d) 34)).alloc (.cells (segV zSg none 0 0 none 0 0) 34) := ⟨_, rfl⟩
  have HB := Lib.hid (show Below w.heap.size w W by rw [hW]; exact ((Below.refl _ _).alloc (Nat.le_refl _) _).alloc (by simp) _)
  have R0 := Lib.hid (show SegAt W w.heap.size s A n c B m d by unfold SegAt; rw [hW, Below.block (alloc_below _ _) _ (by rw [e1]; omega)]; exact heap_alloc_new w _)
  have Z0 := Lib.hid (show SegAt W (w.heap.size + 1) zSg none 0 0 none 0 0 by unfold SegAt; rw [hW, ← e1]; exact heap_alloc_new _ _)
  obtain ⟨q, hq⟩ : ∃ q, q = s.sq := ⟨_, rfl⟩
  have uq : U32 q := by rw [hq]; exact hs.sq
  have q1 := pkC.PkC.cell R0.out.row (segC hs.op.lm A n c B m d).sq
  rw [← hq] at q1
  have uQ := trQ_in uq hg
  have d1 := dZ_in uq hg
  have d2 := dZ_in uQ hg
  have wd1 : IntKind.i64.wrap (dZ q g) = dZ q g := IntWalk.i64_in _ (by omega)
  have wd2 : IntKind.i64.wrap (dZ (trQ q g) g) = dZ (trQ q g) g := IntWalk.i64_in _ (by omega)
  have uz := hz
  unfold U32 at uz
  have wz : IntKind.i64.wrap z = z := IntWalk.i64_in _ (by omega)
  obtain ⟨r, hr⟩ : ∃ r, r = trR q g z := ⟨_, rfl⟩
  have hr' := hr
  unfold trR at hr'
  have wr : IntKind.i64.wrap (z + dZ (trQ q g) g) = r := by rw [hr']; exact IntWalk.i64_in _ (by omega)
  obtain ⟨t, ht⟩ : ∃ t, t = trA q g := ⟨_, rfl⟩
  have ht' := ht
  unfold trA at ht'
  have wt : IntKind.i64.wrap (t + r) = t + r := IntWalk.i64_in _ (by omega)
  have D1 := Lib.hid (fun w' => (show Calls Tryd.prog 51 #[.int .u32 q, .int .u32 g] w' (fun e w'' => e = .returned (.int .i32 (dZ q g)) ∧ w' = w'') from ringC.diff_any q g w' uq.1 uq.2 hg.1 hg.2))
  have D2 := Lib.hid (fun w' => (show Calls Tryd.prog 51 #[.int .u32 (trQ q g), .int .u32 g] w' (fun e w'' => e = .returned (.int .i32 (dZ (trQ q g) g)) ∧ w' = w'') from ringC.diff_any _ g w' uQ.1 uQ.2 hg.1 hg.2))
  have MX := Lib.hid (show Calls Tryd.prog 52 #[.int .u32 q, .slice (some ⟨W.heap.size, 0, none⟩) 1 1] (W.alloc (.cells #[.int .u32 g] 27)) (fun e w'' => e = .returned (.int .u32 (trQ q g)) ∧ W.alloc (.cells #[.int .u32 g] 27) = w'') from
    ringC.max_row q W.heap.size 0 1 1 [g] _ uq.1 uq.2 rfl (by unfold maxLen; decide) (fun i hi => by
      obtain rfl : i = 0 := by omega
      exact pkC.PkC.cell (heap_alloc_new W _) rfl) (fun x hx => by obtain rfl := List.mem_singleton.1 hx; exact hg))
  obtain ⟨s3, hs3⟩ : ∃ x : Sg, x = { s with sq := trQ q g } := ⟨_, rfl⟩
  have HM3 := Lib.hid (show s3.op.mac.length = 12 by rw [hs3]; exact hs.op.lm)
  have W1 := Lib.hid (alloc_below W (.cells #[.int .u32 g] 27))
  obtain ⟨U3, hU3⟩ : ∃ u, u = (W.alloc (.cells #[.int .u32 g] 27)).setCell ⟨w.heap.size, 2, none⟩ (.int .u32 (trQ q g)) := ⟨_, rfl⟩
  have R3 := Lib.hid (show SegAt U3 w.heap.size s3 A n c B m d by rw [hU3]; exact (R0.out.bel W1.out).set_ 2 _ (by rw [hs3]; exact segV_sq _))
  have Z3 := Lib.hid (show U3.heap[w.heap.size + 1]? = some (.cells (segV zSg none 0 0 none 0 0) 34 (0, 0)) by rw [hU3]; exact (Z0.out.bel W1.out).other (by show w.heap.size ≠ w.heap.size + 1; omega) _)
  have HB3 := Lib.hid (show Below w.heap.size w U3 by rw [hU3]; exact (HB.out.trans (W1.out.mono HB.out.size)).setCell (Nat.le_refl _) _)
  have kq1 : (W.alloc (.cells #[.int .u32 g] 27)).cell? ⟨w.heap.size, 2, none⟩ = some (.int .u32 q) := by rw [hq]; exact pkC.PkC.cell (R0.out.bel W1.out).row (segC hs.op.lm A n c B m d).sq
  have fq1 := (R0.out.bel W1.out).frozen 2
  have q3 := pkC.PkC.cell R3.out.row (segC HM3.out A n c B m d).sq
  rw [show s3.sq = trQ q g by rw [hs3]] at q3
  have PC := Lib.hid (show Calls Tryd.prog 53 #[.agg (segV s3 A n c B m d), .int .i64 t, .int .i64 (t + r)] U3 (PtR U3 (trimS s m g z) n (trimL s xs g z)) by
    have sk3 : s3.op.sk = s.op.sk := by rw [hs3]
    have f3 : s3.fl = s.fl := by rw [hs3]
    have h9 := part_any s3 A n c B m d xs t (t + r) U3 HM3.out (by rw [f3]; exact hs.fl) (by rw [sk3]; exact (hA.below HB3.out).more HB3.out.size) hn ((hx.below HB3.out).more HB3.out.size) hm hmd (by omega) (by omega) (by
      rcases Int.lt_or_le r 0 with h | h
      · have h0 : t = 0 := by
          rcases Int.lt_or_le 0 t with h1 | h1
          · have := trR_lo q g z uz.1 uq hg (by rw [← ht]; exact h1)
            omega
          · omega
        rw [f3]; unfold cLo clN; have := syN_bd s.fl; omega
      · exact cLo_mono _ _ (by omega))
    unfold trimS trimL
    rw [← hq, ← ht, ← hr]
    rw [f3] at h9
    rw [hs3] at h9
    rw [hs3]
    exact h9)
  have IC3 := Lib.hid (segC HM3.out A n c B m d).info
  have HMT := Lib.hid (show (trimS s m g z).op.mac.length = 12 from hs.op.lm)
  generalize trimS s m g z = sT at *
  generalize trimL s xs g z = xT at *
  obtain ⟨C3, hC3⟩ : ∃ C, C = segV s3 A n c B m d := ⟨_, rfl⟩
  rw [← hC3] at PC IC3
  have RC3 := Lib.hid (show U3.heap[w.heap.size]? = some (.cells C3 34 (0, 0)) by rw [hC3]; exact R3.out.row)
  have IX := Lib.hid (fun (A : Option Addr) (n c : Nat) (B : Option Addr) (m d : Nat) => (segC HMT.out A n c B m d).info)
  have SX := Lib.hid (fun (A' : Option Addr) (n' c' : Nat) (B' : Option Addr) (m' d' : Nat) => seg_size (s := zSg) (s' := sT) zOpt_ok.lm HMT.out none A' 0 0 n' c' none B' 0 0 m' d')
  have OX := Lib.hid (fun (A : Option Addr) (n c : Nat) (B : Option Addr) (m d : Nat) => seg_one sT A n c B m d)
  generalize segV zSg none 0 0 none 0 0 = ZS at *
  generalize segV s A n c B m d = CP at *
  clear hs3 hC3 hq hr hr' ht d2 uQ uq R0 Z0 hA hx hs hxl
  by_cases c1 : dZ q g < 0
  · obtain rfl : t = 0 := by omega
    have c0 := Int.zero_add r
    rw [c0] at PC wt
    clear ht' c0
    go_enter Tryd.func25, Tryd.ntmps25
    go_upto_region 1 with fail
    rw [← hW]
    try rw [e1]
    clear hW hzv e1
    go_upto_region 2 with (first
      | (go_at_call 51; (refine (D1.out _).mono ?_); rintro e w' ⟨rfl, rfl⟩))
    clear wd1 D1
    go_upto_region 3 with (first
      | (go_at_call 52; (refine MX.out.mono ?_); rintro e w' ⟨rfl, rfl⟩))
    rw [← hU3]
    clear hU3 kq1 fq1 MX q1
    go_upto_region 4 with (first
      | (go_at_call 51; (refine (D2.out _).mono ?_); rintro e w' ⟨rfl, rfl⟩))
    clear D2 q3 wd2 wr
    go_wp2_with (first
      | (refine wpList_load_row rfl 34 (.tmp 3) rfl w.heap.size rfl _ _ _ _ RC3.out Tryd.underlying34 rfl IC3.out ?_)
      | (go_at_call 53; (refine PC.out.mono ?_); rintro e w4 ⟨A4, c4, B4, m4, d4, p4, rfl, g1, g2, g3, g4, BB⟩
         have HP4 := Lib.hid g2
         have HX4 := Lib.hid g3
         have HN4 := Lib.hid g1
         have HD4 := Lib.hid g4
         have HB4 := Lib.hid (HB3.out.trans (BB.mono HB3.out.size))
         have L3 := Lib.hid (show w.heap.size + 1 < U3.heap.size from opC.lt_of_row Z3.out)
         have Z4 := Lib.hid (show w4.heap[w.heap.size + 1]? = some (.cells ZS 34 (0, 0)) from (BB.block _ L3.out).trans Z3.out)
         clear g1 g2 g3 g4 BB)
      | (refine wpList_store_row rfl 34 (.tmp 6) (.tmp 34) rfl (w.heap.size + 1) _ rfl rfl _ _ Z4.out (IX.out A4 n c4 B4 m4 d4) (SX.out A4 n c4 B4 m4 d4) (OX.out A4 n c4 B4 m4 d4) ?_))
    refine bodyPost_ret (v := .agg (segV sT A4 n c4 B4 m4 d4)) (Go.results_cell_row Tryd.results25 _ _ (w.heap.size + 1) _ _ _ _ (by rfl) (setRow_heap _ _ _ _ _ _ Z4.out) Tryd.underlying34 rfl (IX.out A4 n c4 B4 m4 d4)) rfl ?_
    have HP5 := HP4.out.keep (w' := w4.setRow (w.heap.size + 1) (segV sT A4 n c4 B4 m4 d4)) fun k h1 h2 => setRow_other _ _ _ _ (by have := L3.out; omega)
    have HX5 := HX4.out.keep (w' := w4.setRow (w.heap.size + 1) (segV sT A4 n c4 B4 m4 d4)) fun k h1 h2 => setRow_other _ _ _ _ (by have := L3.out; omega)
    exact ⟨A4, c4, B4, m4, d4, p4, rfl, HN4.out, HP5.less HB3.out.size, HX5.less HB3.out.size, HD4.out, aesC.below_setRow HB4.out (by omega) _⟩
  · have c2 : 0 ≤ dZ q g := by omega
    obtain rfl : t = dZ q g := by omega
    clear ht'
    go_enter Tryd.func25, Tryd.ntmps25
    go_upto_region 1 with fail
    rw [← hW]
    try rw [e1]
    clear hW hzv e1
    go_upto_region 2 with (first
      | (go_at_call 51; (refine (D1.out _).mono ?_); rintro e w' ⟨rfl, rfl⟩))
    clear wd1 D1
    go_upto_region 3 with (first
      | (go_at_call 52; (refine MX.out.mono ?_); rintro e w' ⟨rfl, rfl⟩))
    rw [← hU3]
    clear hU3 kq1 fq1 MX q1
    go_upto_region 4 with (first
      | (go_at_call 51; (refine (D2.out _).mono ?_); rintro e w' ⟨rfl, rfl⟩))
    clear D2 q3 wd2 wr
    go_wp2_with (first
      | (refine wpList_load_row rfl 34 (.tmp 3) rfl w.heap.size rfl _ _ _ _ RC3.out Tryd.underlying34 rfl IC3.out ?_)
      | (go_at_call 53; (refine PC.out.mono ?_); rintro e w4 ⟨A4, c4, B4, m4, d4, p4, rfl, g1, g2, g3, g4, BB⟩
         have HP4 := Lib.hid g2
         have HX4 := Lib.hid g3
         have HN4 := Lib.hid g1
         have HD4 := Lib.hid g4
         have HB4 := Lib.hid (HB3.out.trans (BB.mono HB3.out.size))
         have L3 := Lib.hid (show w.heap.size + 1 < U3.heap.size from opC.lt_of_row Z3.out)
         have Z4 := Lib.hid (show w4.heap[w.heap.size + 1]? = some (.cells ZS 34 (0, 0)) from (BB.block _ L3.out).trans Z3.out)
         clear g1 g2 g3 g4 BB)
      | (refine wpList_store_row rfl 34 (.tmp 6) (.tmp 34) rfl (w.heap.size + 1) _ rfl rfl _ _ Z4.out (IX.out A4 n c4 B4 m4 d4) (SX.out A4 n c4 B4 m4 d4) (OX.out A4 n c4 B4 m4 d4) ?_))
    refine bodyPost_ret (v := .agg (segV sT A4 n c4 B4 m4 d4)) (Go.results_cell_row Tryd.results25 _ _ (w.heap.size + 1) _ _ _ _ (by rfl) (setRow_heap _ _ _ _ _ _ Z4.out) Tryd.underlying34 rfl (IX.out A4 n c4 B4 m4 d4)) rfl ?_
    have HP5 := HP4.out.keep (w' := w4.setRow (w.heap.size + 1) (segV sT A4 n c4 B4 m4 d4)) fun k h1 h2 => setRow_other _ _ _ _ (by have := L3.out; omega)
    have HX5 := HX4.out.keep (w' := w4.setRow (w.heap.size + 1) (segV sT A4 n c4 B4 m4 d4)) fun k h1 h2 => setRow_other _ _ _ _ (by have := L3.out; omega)
    exact ⟨A4, c4, B4, m4, d4, p4, rfl, HN4.out, HP5.less HB3.out.size, HX5.less HB3.out.size, HD4.out, aesC.below_setRow HB4.out (by omega) _⟩
end Go.Proofs.YtniimgbljhmcoaaDoor.sgC

/-
  A segment within a window: the document's, number by number.
-/
namespace Go.Proofs.YtniimgbljhmcoaaDoor.sgC
open Go.ChangeShapes Go.WideShapes Go.ChangeAt Go.RowKit
open Go.Proofs.YtniimgbljhmcoaaDoor.memC Go.Proofs.YtniimgbljhmcoaaDoor.genC Go.Proofs.YtniimgbljhmcoaaDoor.butC Go.Proofs.YtniimgbljhmcoaaDoor.freeC Go.Proofs.YtniimgbljhmcoaaDoor.adC
open Go.Proofs.YtniimgbljhmcoaaDoor.opC (zOpt zOpt_ok U32 Prs OwnP lenOfV)
open Go.Proofs.YtniimgbljhmcoaaDoor.ringM
set_option linter.unusedVariables false
theorem fst_cut (f : Int) (xs : List Int) {a b : Int} (hf : Byte f) (h0 : 0 ≤ a) (h1 : a < b) (h2 : b ≤ lenN f xs.length) :
    fstF (cutF f xs.length a b) (cutL f xs a b).length = cutF f xs.length (a + 1) b ∧ fstL (cutF f xs.length a b) (cutL f xs a b) = cutL f xs (a + 1) b := by
  obtain ⟨g1, g2, g3⟩ := cut_first f xs h0 h1 h2
  unfold fstF fstL
  by_cases c1 : syN (cutF f xs.length a b) = 1
  · rw [if_pos c1, if_pos c1]; exact g1 c1
  · have c0 : syN (cutF f xs.length a b) = 0 := by rcases syN_bd (cutF f xs.length a b) with h | h; exact h; exact absurd h c1
    rw [if_neg c1, if_neg c1]
    by_cases c2 : 0 < (cutL f xs a b).length
    · rw [if_pos c2]; exact g2 c0 c2
    · rw [if_neg c2]
      have h := g3 c0 (by omega)
      refine ⟨h.1, ?_⟩
      rw [← h.2, List.eq_nil_of_length_eq_zero (by omega : (cutL f xs a b).length = 0)]; rfl
theorem lst_cut (f : Int) (xs : List Int) {a b : Int} (hf : Byte f) (h0 : 0 ≤ a) (h1 : a < b) (h2 : b ≤ lenN f xs.length) :
    lstF (cutF f xs.length a b) (cutL f xs a b).length = cutF f xs.length a (b - 1) ∧ lstL (cutF f xs.length a b) (cutL f xs a b) = cutL f xs a (b - 1) := by
  obtain ⟨g1, g2, g3⟩ := cut_last f xs h0 h1 h2
  unfold lstF lstL
  by_cases c1 : fiN (cutF f xs.length a b) = 1
  · rw [if_pos c1, if_pos c1]; exact g1 c1
  · have c0 : fiN (cutF f xs.length a b) = 0 := by rcases fiN_bd (cutF f xs.length a b) with h | h; exact h; exact absurd h c1
    rw [if_neg c1, if_neg c1]
    by_cases c2 : 0 < (cutL f xs a b).length
    · rw [if_pos c2]; exact g2 c0 c2
    · rw [if_neg c2]
      have h := g3 c0 (by omega)
      refine ⟨h.1, ?_⟩
      rw [← h.2, List.eq_nil_of_length_eq_zero (by omega : (cutL f xs a b).length = 0)]; rfl
theorem dZ_step {q g : Int} (hq : U32 q) (hg : U32 g) {k : Int} (h0 : 0 ≤ k) (h1 : k ≤ dZ q g) : dZ ((q + k) % 4294967296) g = dZ q g - k := by
  unfold U32 at hq hg
  rw [dZ_eq] at h1 ⊢
  rw [dZ_eq]
  unfold aZ at h1 ⊢
  (repeat' split) <;> (repeat' split at h1) <;> omega
/-- what stands while numbers are taken off -/
def Ks (w0 w : World) (s : Sg) (A : Option Addr) (n c : Nat) (xs : List Int) (q a b : Int) : Prop :=
  ∃ B m d, Fs w0 w { s with fl := cutF s.fl xs.length a b, sq := q } A n c B m d ∧ Nums .u8 w w0.heap.size B m (cutL s.fl xs a b) ∧ m ≤ d
theorem Fs.rowset {w0 w : World} {s s' : Sg} {A : Option Addr} {n c : Nat} {B B' : Option Addr} {m d m' d' : Nat} (h : Fs w0 w s A n c B m d) : Fs w0 (w.setRow w0.heap.size (segV s' A n c B' m' d')) s' A n c B' m' d' :=
  ⟨setRow_heap _ _ _ _ _ _ h.row.row, (setRow_other _ _ _ _ (by omega)).trans h.res, aesC.below_setRow h.bel (Nat.le_refl _) _⟩
theorem nums_set {w : World} {g : Nat} {B : Option Addr} {m : Nat} {X : List Int} (h : Nums .u8 w g B m X) (cs : Array Value) : Nums .u8 (w.setRow g cs) g B m X := h.below (aesC.below_setRow (Below.refl g w) (Nat.le_refl _) _)
end Go.Proofs.YtniimgbljhmcoaaDoor.sgC

/-
  Trim of the document's.
-/
namespace Go.Proofs.YtniimgbljhmcoaaDoor.sgC
open Go.ChangeShapes Go.WideShapes Go.ChangeAt Go.RowKit
open Go.Proofs.YtniimgbljhmcoaaDoor.memC Go.Proofs.YtniimgbljhmcoaaDoor.genC Go.Proofs.YtniimgbljhmcoaaDoor.butC Go.Proofs.YtniimgbljhmcoaaDoor.freeC Go.Proofs.YtniimgbljhmcoaaDoor.adC
open Go.Proofs.YtniimgbljhmcoaaDoor.opC (zOpt zOpt_ok U32 Prs OwnP)
open Go.Proofs.YtniimgbljhmcoaaDoor.ringM
set_option linter.unusedVariables false
theorem nums_back {w w' : World} {B : Nat} {A : Option Addr} {m : Nat} {X : List Int} (h : Nums .u8 w' B A m X) (hb : Below B w w') : Nums .u8 w B A m X := by
  refine ⟨h.len, fun h0 => ?_⟩
  obtain ⟨b, o, e, hlt, hc⟩ := h.at_ h0
  exact ⟨b, o, e, hlt, fun i hi => (hb.cell (p := ⟨b, o + i, none⟩) hlt).symm.trans (hc i hi)⟩
def lenV : Value → Nat
  | .slice _ n _ => n
  | _ => 0
def intV : Value → Int
  | .int _ i => i
  | _ => 0
set_option maxRecDepth 100000 in
set_option maxHeartbeats 8000000 in
theorem rtrim_any (s : Sg) (A : Option Addr) (n c : Nat) (B : Option Addr) (m d : Nat) (xs : List Int) (g z : Int) (w : World) (hs : s.Ok) (hx : Nums .u8 w w.heap.size B m xs) (hm : m ≤ 100000) (hmd : m ≤ d) (hg : U32 g) (hz : U32 z) :
    Calls Tryd.prog 26 #[.agg (segV s A n c B m d), .int .u32 g, .int .u32 z] w (FsR w w.heap.size (trimS s m g z) A n c (trimL s xs g z)) := by
  have hzv := zeroSeg
  have hxl := hx.len
  have e1 : (w.alloc (.cells (segV s A n c B m d) 34)).heap.size = w.heap.size + 1 := alloc_size _ _
  obtain ⟨W, hW⟩ : ∃ W, W = (w.alloc (.cells (segV s A n c B m d) 34)).alloc (.cells (segV zSg none 0 0 none 0 0) 34) := ⟨_, rfl⟩
  have F0 := Lib.hid (Fs.box w s A n c B m d hW)
  have hq := hs.sq
  have hf := hs.fl
  have HM := Lib.hid hs.op.lm
  obtain ⟨L, hL⟩ : ∃ L, L = lenN s.fl xs.length := ⟨_, rfl⟩
  have s1 := syN_bd s.fl
  have s2 := fiN_bd s.fl
  have hL0 : 0 ≤ L ∧ L ≤ 100002 := by rw [hL]; unfold lenN; omega
  obtain ⟨call1, call2⟩ := cut_all s.fl xs
  rw [← hL] at call1 call2
  have d1 := dZ_in hq hg
  have wd1 : IntKind.i64.wrap (dZ s.sq g) = dZ s.sq g := IntWalk.i64_in _ (by omega)
  have K0 := Lib.hid (show Ks w W s A n c xs s.sq 0 L from ⟨B, m, d, by rw [call1]; exact F0.out, by rw [call2]; exact hx.below F0.out.bel, hmd⟩)
  have D1 := Lib.hid (fun w' => (show Calls Tryd.prog 27 #[.int .u32 s.sq, .int .u32 g] w' (fun e w'' => e = .returned (.int .i32 (dZ s.sq g)) ∧ w' = w'') from ringC.dref_any s.sq g w' hq.1 hq.2 hg.1 hg.2))
  have LN := Lib.hid (fun (q a b : Int) (B' : Option Addr) (m' d' : Nat) (w' : World) (h0 : 0 ≤ a) (h1 : a ≤ b) (h2 : b ≤ L) (hN : Nums .u8 w' w.heap.size B' m' (cutL s.fl xs a b)) => (show Calls Tryd.prog 16 #[.agg (segV { s with fl := cutF s.fl xs.length a b, sq := q } A n c B' m' d')] w' (Ret w' (.int .u32 (b - a))) by
    have hl := hN.len
    have hl2 := cutL_len s.fl xs a b
    have hl3 := cLo_le s.fl xs.length b
    have h9 := rlen_any { s with fl := cutF s.fl xs.length a b, sq := q } A n c B' m' d' w' hs.op.lm (cutF_byte hf _ _ _) (by omega)
    rw [show lenN ({ s with fl := cutF s.fl xs.length a b, sq := q } : Sg).fl m' = b - a by
      rw [← hl]; exact cut_len s.fl xs h0 h1 (by rw [← hL]; exact h2)] at h9
    exact h9))
  have FST := Lib.hid (fun (q a b : Int) (B' : Option Addr) (m' d' : Nat) (w' : World) (h0 : 0 ≤ a) (h1 : a < b) (h2 : b ≤ L) (hN : Nums .u8 w' w.heap.size B' m' (cutL s.fl xs a b)) (hmd : m' ≤ d') => (show Calls Tryd.prog 55 #[.agg (segV { s with fl := cutF s.fl xs.length a b, sq := q } A n c B' m' d')] w' (FsR w' w.heap.size { s with fl := cutF s.fl xs.length (a + 1) b, sq := (q + 1) % 4294967296 } A n c (cutL s.fl xs (a + 1) b)) by
    have hl := hN.len
    have hl2 := cutL_len s.fl xs a b
    have hl3 := cLo_le s.fl xs.length b
    have h9 := rfirst_any { s with fl := cutF s.fl xs.length a b, sq := q } A n c B' m' d' (cutL s.fl xs a b) w' hs.op.lm (cutF_byte hf _ _ _) w.heap.size hN (by omega) hmd
    obtain ⟨g1, g2⟩ := fst_cut s.fl xs hf h0 h1 (by rw [← hL]; exact h2)
    rw [hl] at g1
    simp only [g1, g2] at h9
    exact h9))
  have LST := Lib.hid (fun (q a b : Int) (B' : Option Addr) (m' d' : Nat) (w' : World) (h0 : 0 ≤ a) (h1 : a < b) (h2 : b ≤ L) (hN : Nums .u8 w' w.heap.size B' m' (cutL s.fl xs a b)) (hmd : m' ≤ d') => (show Calls Tryd.prog 56 #[.agg (segV { s with fl := cutF s.fl xs.length a b, sq := q } A n c B' m' d')] w' (FsR w' w.heap.size { s with fl := cutF s.fl xs.length a (b - 1), sq := q } A n c (cutL s.fl xs a (b - 1))) by
    have hl := hN.len
    have hl2 := cutL_len s.fl xs a b
    have hl3 := cLo_le s.fl xs.length b
    have h9 := rlast_any { s with fl := cutF s.fl xs.length a b, sq := q } A n c B' m' d' (cutL s.fl xs a b) w' hs.op.lm (cutF_byte hf _ _ _) w.heap.size hN (by omega) hmd
    obtain ⟨g1, g2⟩ := lst_cut s.fl xs hf h0 h1 (by rw [← hL]; exact h2)
    rw [hl] at g1
    simp only [g1, g2] at h9
    exact h9))
  have BF := Lib.hid (fun (k : Int) (h0 : 0 ≤ k) (h1 : k ≤ dZ s.sq g) (w' : World) => (show Calls Tryd.prog 54 #[.int .u32 ((s.sq + k) % 4294967296), .int .u32 g] w' (fun e w'' => e = .returned (.bool (decide (k < dZ s.sq g))) ∧ w' = w'') by
    have h9 := ringC.bfref_any ((s.sq + k) % 4294967296) g w' (by omega) (by omega) hg.1 hg.2
    have e : bfB ((s.sq + k) % 4294967296) g = decide (k < dZ s.sq g) := by
      unfold bfB
      rw [dZ_step hq hg h0 h1]
      by_cases h : k < dZ s.sq g
      · rw [decide_eq_true h]; exact decide_eq_true (by omega)
      · rw [decide_eq_false h]; exact decide_eq_false (by omega)
    rw [e] at h9
    exact h9))
  have IC := Lib.hid (fun (f q : Int) (B' : Option Addr) (m' d' : Nat) => (segC (s := { s with fl := f, sq := q }) hs.op.lm A n c B' m' d').info)
  have SS := Lib.hid (fun (f q f' q' : Int) (B' : Option Addr) (m' d' : Nat) (B'' : Option Addr) (m'' d'' : Nat) => seg_size (s := { s with fl := f, sq := q }) (s' := { s with fl := f', sq := q' }) hs.op.lm hs.op.lm A A n c n c B' B'' m' d' m'' d'')
  have OS := Lib.hid (fun (f q : Int) (B' : Option Addr) (m' d' : Nat) => seg_one { s with fl := f, sq := q } A n c B' m' d')
  have SZ := Lib.hid (fun (f q : Int) (B' : Option Addr) (m' d' : Nat) => seg_size (s := zSg) (s' := { s with fl := f, sq := q }) zOpt_ok.lm hs.op.lm none A 0 0 n c none B' 0 0 m' d')
  have CQ := Lib.hid (fun (f q : Int) (B' : Option Addr) (m' d' : Nat) => (segC (s := { s with fl := f, sq := q }) hs.op.lm A n c B' m' d').sq)
  have CF := Lib.hid (fun (f q : Int) (B' : Option Addr) (m' d' : Nat) => (segC (s := { s with fl := f, sq := q }) hs.op.lm A n c B' m' d').fl)
  have CD := Lib.hid (fun (f q : Int) (B' : Option Addr) (m' d' : Nat) => (segC (s := { s with fl := f, sq := q }) hs.op.lm A n c B' m' d').da)
  have kq := pkC.PkC.cell F0.out.row.row (segC hs.op.lm A n c B m d).sq
  obtain ⟨CP, hCP⟩ : ∃ C, C = segV s A n c B m d := ⟨_, rfl⟩
  have uz := hz
  unfold U32 at uz
  have TRS := Lib.hid (show ∀ (k b ah : Int), k = min (max (dZ s.sq g) 0) L → b = k + min (L - k) (max (z + ah) 0) → z + ah = trR s.sq g z → ({ s with fl := cutF s.fl xs.length k b, sq := trQ s.sq g } : Sg) = trimS s m g z ∧ cutL s.fl xs k b = trimL s xs g z from fun k b ah h1 h2 h3 => by
    have h9 := cut_same s.fl xs (a := trA s.sq g) (b := trA s.sq g + trR s.sq g z) (a' := k) (b' := b) (by rw [← hL, h1]; unfold trA; omega) (by rw [← hL, h2, h3]; omega) (by unfold trA; omega)
    unfold trimS trimL
    rw [← hxl, h9.1, h9.2]
    exact ⟨rfl, rfl⟩)
  rw [← hCP] at hW e1 ⊢
  have HL := Lib.hid hL
  clear hxl hCP hL call1 call2 hx hm hmd hs hf s1 s2
  go_enter Tryd.func26, Tryd.ntmps26
  go_upto_region 1 with fail
  rw [← hW]
  clear hW e1 hzv
  go_upto_if 14 with (first
    | (go_at_call 27; (refine (D1.out _).mono ?_); rintro e w' ⟨rfl, rfl⟩))
  clear D1 kq wd1
  go_cut [7] from 14 (fun v wc => ∃ (ah k : Int), v = .int .i64 ah ∧ -4294967296 ≤ ah ∧ ah ≤ 4294967296 ∧ k = min (max (dZ s.sq g) 0) L ∧ z + ah = trR s.sq g z ∧ Ks w wc s A n c xs (trQ s.sq g) k L)
  case first =>
    by_cases hp : 0 < dZ s.sq g
    · have hbf : bfB s.sq g = true := by unfold bfB; exact decide_eq_true hp
      have hpb : decide (0 < dZ s.sq g) = true := decide_eq_true hp
      have eQ : trQ s.sq g = g := by unfold trQ; rw [if_pos hbf]
      have hgg : dZ g g = 0 := by rw [dZ_eq]; unfold aZ; split <;> omega
      have HE := Lib.hid (show ∀ (wr : World) (k : Int) (B' : Option Addr) (m' d' : Nat), k = min (max (dZ s.sq g) 0) L → Fs w wr { s with fl := cutF s.fl xs.length k L, sq := (s.sq + k) % 4294967296 } A n c B' m' d' → Nums .u8 wr w.heap.size B' m' (cutL s.fl xs k L) → m' ≤ d' → ∃ (ah k : Int), Value.int .i64 0 = .int .i64 ah ∧ -4294967296 ≤ ah ∧ ah ≤ 4294967296 ∧ k = min (max (dZ s.sq g) 0) L ∧ z + ah = trR s.sq g z ∧ Ks w (wr.setCell ⟨w.heap.size, 2, none⟩ (.int .u32 g)) s A n c xs (trQ s.sq g) k L from fun wr k B' m' d' h1 h2 h3 h4 =>
        ⟨0, k, rfl, by decide, by decide, h1, by unfold trR; rw [eQ, hgg], B', m', d', by rw [eQ]; exact h2.set_ 2 (.int .u32 g) (segV_sq _), h3.below ((Below.refl w.heap.size wr).setCell (Nat.le_refl _) _), h4⟩)
      go_wp2_with fail
      clear hbf eQ hgg
      try rw [hpb]
      go_loopw [] (fun wr => ∃ k : Int, 0 ≤ k ∧ k ≤ L ∧ k ≤ dZ s.sq g ∧ Ks w wr s A n c xs ((s.sq + k) % 4294967296) k L) (fun wr => (dZ (intV ((wr.cell? ⟨w.heap.size, 2, none⟩).getD undef)) g).toNat)
      case atStart => exact ⟨0, by omega, by omega, by omega, by rw [show (s.sq + 0) % 4294967296 = s.sq by unfold U32 at hq; omega]; exact K0.out⟩
      case round =>
        obtain ⟨k, k0, kL, kd, B', m', d', Fk, Nk, Dk⟩ := hrel
        have kq := pkC.PkC.cell Fk.row.row (CQ.out (cutF s.fl xs.length k L) ((s.sq + k) % 4294967296) B' m' d')
        have fq := Fk.row.frozen 2
        have hFk := Lib.hid Fk; have hNk := Lib.hid Nk; have hDk := Lib.hid Dk
        have LK := Lib.hid (LN.out ((s.sq + k) % 4294967296) k L B' m' d' wr k0 kL (Int.le_refl _) Nk)
        have BK := Lib.hid (BF.out k k0 kd)
        have IK := Lib.hid (IC.out (cutF s.fl xs.length k L) ((s.sq + k) % 4294967296) B' m' d')
        have F_wr := Lib.hid Fk; have N_wr := Lib.hid Nk; have D_wr := Lib.hid Dk
        have LNK := Lib.hid (fun (w' : World) (hN : Nums .u8 w' w.heap.size B' m' (cutL s.fl xs k L)) => LN.out ((s.sq + k) % 4294967296) k L B' m' d' w' k0 kL (Int.le_refl _) hN)
        have R_wr := Lib.hid Fk.row.row
        obtain ⟨CK, hCK⟩ : ∃ C, C = segV { s with fl := cutF s.fl xs.length k L, sq := (s.sq + k) % 4294967296 } A n c B' m' d' := ⟨_, rfl⟩
        have FK0 := Lib.hid (fun (c1 : k < L) (w' : World) (hN : Nums .u8 w' w.heap.size B' m' (cutL s.fl xs k L)) => FST.out ((s.sq + k) % 4294967296) k L B' m' d' w' k0 c1 (Int.le_refl _) hN D_wr.out)
        simp only [← hCK] at LNK FK0 R_wr IK
        have HCK := Lib.hid hCK
        clear hCK Fk Nk Dk hFk hNk hDk LK LN LST
        by_cases c1 : k < L
        · have c2 : 0 < L - k := by omega
          have c2b : decide (0 < L - k) = true := decide_eq_true c2
          by_cases c3 : k < dZ s.sq g
          · rw [decide_eq_true c3] at BK
            obtain ⟨k1, hk1⟩ : ∃ k1, k1 = k + 1 := ⟨_, rfl⟩
            have FK := Lib.hid (fun (w' : World) (hN : Nums .u8 w' w.heap.size B' m' (cutL s.fl xs k L)) => (show Calls Tryd.prog 55 #[.agg CK] w' (FsR w' w.heap.size { s with fl := cutF s.fl xs.length k1 L, sq := (s.sq + k1) % 4294967296 } A n c (cutL s.fl xs k1 L)) by
              have h9 := FK0.out c1 w' hN
              rw [show ((s.sq + k) % 4294967296 + 1) % 4294967296 = (s.sq + k1) % 4294967296 by omega, ← hk1] at h9
              exact h9))
            have HK1 := Lib.hid hk1
            clear FK0 hk1
            go_upto_region 4 with (first
              | (refine wpList_load_rowG (by kernel_rfl) 34 (.tmp 3) rfl w.heap.size (by kernel_rfl) _ _ _ _ R_wr.out Tryd.underlying34 rfl IK.out ?_)
              | (go_at_call 16; (refine (LNK.out wr N_wr.out).mono ?_); rintro e w2 ⟨rfl, BB⟩
                 have F_w2 := Lib.hid (F_wr.out.next BB)
                 have N_w2 := Lib.hid (N_wr.out.below (BB.mono F_wr.out.bel.size))
                 have R_w2 := Lib.hid ((BB.block _ (opC.lt_of_row R_wr.out)).trans R_wr.out)
                 have kq2 := pkC.PkC.cell F_w2.out.row.row (CQ.out (cutF s.fl xs.length k L) ((s.sq + k) % 4294967296) B' m' d')
                 have fq2 := F_w2.out.row.frozen 2
                 clear BB)
              | (go_at_call 54; (refine (BK.out _).mono ?_); rintro e w' ⟨rfl, rfl⟩))
            clear kq2 fq2
            go_wp2_with (first
              | (refine wpList_load_rowG (by kernel_rfl) 34 (.tmp 3) rfl w.heap.size (by kernel_rfl) _ _ _ _ R_w2.out Tryd.underlying34 rfl IK.out ?_)
              | (go_at_call 55; (refine (FK.out _ N_w2.out).mono ?_); rintro e w3 ⟨B3, m3, d3, rfl, N3', D3', BB⟩
                 have F_w3 := Lib.hid (F_w2.out.next BB)
                 have N_w3 := Lib.hid (N3'.below (BB.mono F_w2.out.bel.size))
                 have D_w3 := Lib.hid D3'
                 have R_w3 := Lib.hid ((BB.block _ (opC.lt_of_row R_w2.out)).trans R_w2.out)
                 clear N3' D3' BB)
              | (refine wpList_store_row rfl 34 (.tmp 3) (.tmp 25) rfl w.heap.size _ rfl rfl _ _ R_w3.out (IC.out _ _ B3 m3 d3) (by rw [HCK.out]; exact SS.out _ _ _ _ B' m' d' B3 m3 d3) (OS.out _ _ B3 m3 d3) ?_))
            go_roundw
            case rel =>
              have hk1 := HK1.out
              exact ⟨_, _, _, _, _, _, _, _, _, _, _, ⟨k1, by omega, by omega, by omega, B3, m3, d3, F_w3.out.rowset, nums_set N_w3.out _, D_w3.out⟩, rfl⟩
            case measure =>
              have hk1 := HK1.out
              have F9 := F_w3.out.rowset (s' := { s with fl := cutF s.fl xs.length k1 L, sq := (s.sq + k1) % 4294967296 }) (B' := B3) (m' := m3) (d' := d3)
              rw [kq, pkC.PkC.cell F9.row.row (CQ.out _ _ B3 m3 d3)]
              simp only [Option.getD_some, intV]
              rw [dZ_step hq hg k0 kd, dZ_step hq hg (show 0 ≤ k1 by omega) (by omega)]
              omega
          · rw [decide_eq_false c3] at BK
            clear FK0
            go_wp2_with (first
              | (refine wpList_load_rowG (by kernel_rfl) 34 (.tmp 3) rfl w.heap.size (by kernel_rfl) _ _ _ _ R_wr.out Tryd.underlying34 rfl IK.out ?_)
              | (go_at_call 16; (refine (LNK.out wr N_wr.out).mono ?_); rintro e w2 ⟨rfl, BB⟩
                 have F_w2 := Lib.hid (F_wr.out.next BB)
                 have N_w2 := Lib.hid (N_wr.out.below (BB.mono F_wr.out.bel.size))
                 have R_w2 := Lib.hid ((BB.block _ (opC.lt_of_row R_wr.out)).trans R_wr.out)
                 have kq2 := pkC.PkC.cell F_w2.out.row.row (CQ.out (cutF s.fl xs.length k L) ((s.sq + k) % 4294967296) B' m' d')
                 have fq2 := F_w2.out.row.frozen 2
                 clear BB)
              | (go_at_call 54; (refine (BK.out _).mono ?_); rintro e w' ⟨rfl, rfl⟩))
            go_meet
            exact HE.out w2 k B' m' d' (by omega) F_w2.out N_w2.out D_wr.out
        · have c2 : ¬ 0 < L - k := by omega
          have c2b : decide (0 < L - k) = false := decide_eq_false c2
          have c2c : L - k ≤ 0 := by omega
          clear FK0
          go_wp2_with (first
            | (refine wpList_load_rowG (by kernel_rfl) 34 (.tmp 3) rfl w.heap.size (by kernel_rfl) _ _ _ _ R_wr.out Tryd.underlying34 rfl IK.out ?_)
            | (go_at_call 16; (refine (LNK.out wr N_wr.out).mono ?_); rintro e w2 ⟨rfl, BB⟩
               have F_w2 := Lib.hid (F_wr.out.next BB)
               have N_w2 := Lib.hid (N_wr.out.below (BB.mono F_wr.out.bel.size))
               have R_w2 := Lib.hid ((BB.block _ (opC.lt_of_row R_wr.out)).trans R_wr.out)
               have kq2 := pkC.PkC.cell F_w2.out.row.row (CQ.out (cutF s.fl xs.length k L) ((s.sq + k) % 4294967296) B' m' d')
               have fq2 := F_w2.out.row.frozen 2
               clear BB))
          go_meet
          exact HE.out w2 k B' m' d' (by omega) F_w2.out N_w2.out D_wr.out
    · have hpb : decide (0 < dZ s.sq g) = false := decide_eq_false hp
      have eQ : trQ s.sq g = s.sq := by unfold trQ bfB; rw [hpb]; rfl
      have hpc : dZ s.sq g ≤ 0 := by omega
      go_wp2_with fail
      go_meet
      have e0 : (0 : Int) = min (max (dZ s.sq g) 0) L := by omega
      exact ⟨dZ s.sq g, 0, rfl, by omega, by omega, e0, by unfold trR; rw [eQ], by rw [eQ]; exact K0.out⟩
  case rest =>
  obtain ⟨ah, k, rfl, a0, a1, hk, hr, KS⟩ := hcut
  have k0 : 0 ≤ k := by omega
  have kL : k ≤ L := by omega
  have KS0 := Lib.hid KS
  have wz : IntKind.i64.wrap z = z := IntWalk.i64_in _ (by omega)
  have wza : IntKind.i64.wrap (z + ah) = z + ah := IntWalk.i64_in _ (by omega)
  have HK := Lib.hid hk
  have HR := Lib.hid hr
  generalize trQ s.sq g = Q at *
  clear K0 F0 FST BF KS hk hr hq d1
  go_wp2_with fail
  go_loopw [] (fun wr => ∃ b : Int, k ≤ b ∧ b ≤ L ∧ k + min (L - k) (max (z + ah) 0) ≤ b ∧ Ks w wr s A n c xs Q k b) (fun wr => (lenN (intV ((wr.cell? ⟨w.heap.size, 4, none⟩).getD undef)) (lenV ((wr.cell? ⟨w.heap.size, 31, none⟩).getD undef))).toNat)
  case atStart => exact ⟨L, kL, Int.le_refl _, by omega, KS0.out⟩
  case round =>
    obtain ⟨b, kb, bL, lb, B', m', d', Fk, Nk, Dk⟩ := hrel
    have F_wr := Lib.hid Fk; have N_wr := Lib.hid Nk; have D_wr := Lib.hid Dk
    have IK := Lib.hid (IC.out (cutF s.fl xs.length k b) Q B' m' d')
    have SK := Lib.hid (SZ.out (cutF s.fl xs.length k b) Q B' m' d')
    have OK := Lib.hid (OS.out (cutF s.fl xs.length k b) Q B' m' d')
    have LNK := Lib.hid (fun (w' : World) (hN : Nums .u8 w' w.heap.size B' m' (cutL s.fl xs k b)) => LN.out Q k b B' m' d' w' k0 kb bL hN)
    have FK0 := Lib.hid (fun (c1 : k < b) (w' : World) (hN : Nums .u8 w' w.heap.size B' m' (cutL s.fl xs k b)) => LST.out Q k b B' m' d' w' k0 c1 bL hN D_wr.out)
    have R_wr := Lib.hid Fk.row.row
    have wN : IntKind.i64.wrap (b - k) = b - k := IntWalk.i64_in _ (by omega)
    have hme : lenN (cutF s.fl xs.length k b) m' = b - k := by rw [← Nk.len]; exact cut_len s.fl xs k0 kb (by rw [← HL.out]; exact bL)
    have kf := pkC.PkC.cell Fk.row.row (CF.out (cutF s.fl xs.length k b) Q B' m' d')
    have kd := pkC.PkC.cell Fk.row.row (CD.out (cutF s.fl xs.length k b) Q B' m' d')
    have HKF := Lib.hid kf; have HKD := Lib.hid kd; have HME := Lib.hid hme
    obtain ⟨CK, hCK⟩ : ∃ C, C = segV { s with fl := cutF s.fl xs.length k b, sq := Q } A n c B' m' d' := ⟨_, rfl⟩
    simp only [← hCK] at LNK FK0 R_wr IK SK OK
    have HCK := Lib.hid hCK
    clear hCK Fk Nk Dk LN LST kf kd hme
    by_cases c1 : k < b
    · have c1b : decide (k < b) = true := decide_eq_true c1
      by_cases c2 : z + ah < b - k
      · have c2b : decide (z + ah < b - k) = true := decide_eq_true c2
        obtain ⟨b1, hb1⟩ : ∃ b1, b1 = b - 1 := ⟨_, rfl⟩
        have FK := Lib.hid (FK0.out (by omega))
        rw [← hb1] at FK
        have HB1 := Lib.hid hb1
        clear FK0 hb1
        go_upto_region 8 with (first
          | (refine wpList_load_rowG (by kernel_rfl) 34 (.tmp 3) rfl w.heap.size (by kernel_rfl) _ _ _ _ R_wr.out Tryd.underlying34 rfl IK.out ?_)
          | (go_at_call 16; (refine (LNK.out wr N_wr.out).mono ?_); rintro e w2 ⟨rfl, BB⟩
             have F_w2 := Lib.hid (F_wr.out.next BB)
             have N_w2 := Lib.hid (N_wr.out.below (BB.mono F_wr.out.bel.size))
             have R_w2 := Lib.hid ((BB.block _ (opC.lt_of_row R_wr.out)).trans R_wr.out)
             clear BB)
          | (refine wpList_load_rowG (by kernel_rfl) 34 (.tmp 3) rfl w.heap.size (by kernel_rfl) _ _ _ _ R_w2.out Tryd.underlying34 rfl IK.out ?_)
          | (go_at_call 16; (refine (LNK.out w2 N_w2.out).mono ?_); rintro e w3 ⟨rfl, BB⟩
             have F_w3 := Lib.hid (F_w2.out.next BB)
             have N_w3 := Lib.hid (N_w2.out.below (BB.mono F_w2.out.bel.size))
             have R_w3 := Lib.hid ((BB.block _ (opC.lt_of_row R_w2.out)).trans R_w2.out)
             clear BB))
        go_wp2_with (first
          | (refine wpList_load_rowG (by kernel_rfl) 34 (.tmp 3) rfl w.heap.size (by kernel_rfl) _ _ _ _ R_w3.out Tryd.underlying34 rfl IK.out ?_)
          | (go_at_call 56; (refine (FK.out _ N_w3.out).mono ?_); rintro e w4 ⟨B4, m4, d4, rfl, N4', D4', BB⟩
             have F_w4 := Lib.hid (F_w3.out.next BB)
             have N_w4 := Lib.hid (N4'.below (BB.mono F_w3.out.bel.size))
             have D_w4 := Lib.hid D4'
             have R_w4 := Lib.hid ((BB.block _ (opC.lt_of_row R_w3.out)).trans R_w3.out)
             clear N4' D4' BB)
          | (refine wpList_store_row rfl 34 (.tmp 3) (.tmp 42) rfl w.heap.size _ rfl rfl _ _ R_w4.out (IC.out _ _ B4 m4 d4) (by rw [HCK.out]; exact SS.out _ _ _ _ B' m' d' B4 m4 d4) (OS.out _ _ B4 m4 d4) ?_))
        go_roundw
        case rel =>
          have hb1 := HB1.out
          exact ⟨_, _, _, _, _, _, _, _, _, _, _, _, _, _, _, ⟨b1, by omega, by omega, by omega, B4, m4, d4, F_w4.out.rowset, nums_set N_w4.out _, D_w4.out⟩, rfl⟩
        case measure =>
          have hb1 := HB1.out
          have F9 := F_w4.out.rowset (s' := { s with fl := cutF s.fl xs.length k b1, sq := Q }) (B' := B4) (m' := m4) (d' := d4)
          rw [HKF.out, HKD.out, pkC.PkC.cell F9.row.row (CF.out _ _ B4 m4 d4), pkC.PkC.cell F9.row.row (CD.out _ _ B4 m4 d4)]
          simp only [Option.getD_some, intV, lenV]
          rw [HME.out, ← N_w4.out.len, cut_len s.fl xs k0 (show k ≤ b1 by omega) (by rw [← HL.out]; omega)]
          omega
      · have c2b : decide (z + ah < b - k) = false := decide_eq_false c2
        have c2c : b - k ≤ z + ah := by omega
        clear FK0
        go_wp2_with (first
          | (refine wpList_load_rowG (by kernel_rfl) 34 (.tmp 3) rfl w.heap.size (by kernel_rfl) _ _ _ _ R_wr.out Tryd.underlying34 rfl IK.out ?_)
          | (go_at_call 16; (refine (LNK.out wr N_wr.out).mono ?_); rintro e w2 ⟨rfl, BB⟩
             have F_w2 := Lib.hid (F_wr.out.next BB)
             have N_w2 := Lib.hid (N_wr.out.below (BB.mono F_wr.out.bel.size))
             have R_w2 := Lib.hid ((BB.block _ (opC.lt_of_row R_wr.out)).trans R_wr.out)
             clear BB)
          | (refine wpList_load_rowG (by kernel_rfl) 34 (.tmp 3) rfl w.heap.size (by kernel_rfl) _ _ _ _ R_w2.out Tryd.underlying34 rfl IK.out ?_)
          | (go_at_call 16; (refine (LNK.out w2 N_w2.out).mono ?_); rintro e w3 ⟨rfl, BB⟩
             have F_w3 := Lib.hid (F_w2.out.next BB)
             have N_w3 := Lib.hid (N_w2.out.below (BB.mono F_w2.out.bel.size))
             have R_w3 := Lib.hid ((BB.block _ (opC.lt_of_row R_w2.out)).trans R_w2.out)
             clear BB)
          | (refine wpList_load_rowG (by kernel_rfl) 34 (.tmp 3) rfl w.heap.size (by kernel_rfl) _ _ _ _ R_w3.out Tryd.underlying34 rfl IK.out ?_)
          | (refine wpList_store_row rfl 34 (.tmp 6) (.tmp 43) rfl (w.heap.size + 1) CK rfl rfl _ _ (F_w3.out.res.row) IK.out SK.out OK.out ?_))
        refine bodyPost_ret (v := .agg CK) (Go.results_cell_row Tryd.results26 _ _ (w.heap.size + 1) _ _ _ _ (by rfl) (setRow_heap _ _ _ _ _ _ (F_w3.out.res.row)) Tryd.underlying34 rfl IK.out) rfl ?_
        have E9 := TRS.out k b ah HK.out (by omega) HR.out
        exact ⟨B', m', d', by rw [HCK.out, E9.1], by rw [← E9.2]; exact nums_back N_w3.out F_w3.out.bel, D_wr.out, aesC.below_setRow F_w3.out.bel (by omega) _⟩
    · have c1b : decide (k < b) = false := decide_eq_false c1
      have c1c : b ≤ k := by omega
      clear FK0
      go_upto_region 9 with (first
        | (refine wpList_load_rowG (by kernel_rfl) 34 (.tmp 3) rfl w.heap.size (by kernel_rfl) _ _ _ _ R_wr.out Tryd.underlying34 rfl IK.out ?_)
        | (go_at_call 16; (refine (LNK.out wr N_wr.out).mono ?_); rintro e w2 ⟨rfl, BB⟩
           have F_w2 := Lib.hid (F_wr.out.next BB)
           have N_w2 := Lib.hid (N_wr.out.below (BB.mono F_wr.out.bel.size))
           have R_w2 := Lib.hid ((BB.block _ (opC.lt_of_row R_wr.out)).trans R_wr.out)
           clear BB))
      go_wp2_with (first
        | (refine wpList_load_rowG (by kernel_rfl) 34 (.tmp 3) rfl w.heap.size (by kernel_rfl) _ _ _ _ R_w2.out Tryd.underlying34 rfl IK.out ?_)
        | (refine wpList_store_row rfl 34 (.tmp 6) (.tmp 43) rfl (w.heap.size + 1) CK rfl rfl _ _ (F_w2.out.res.row) IK.out SK.out OK.out ?_))
      refine bodyPost_ret (v := .agg CK) (Go.results_cell_row Tryd.results26 _ _ (w.heap.size + 1) _ _ _ _ (by rfl) (setRow_heap _ _ _ _ _ _ (F_w2.out.res.row)) Tryd.underlying34 rfl IK.out) rfl ?_
      have E9 := TRS.out k b ah HK.out (by omega) HR.out
      exact ⟨B', m', d', by rw [HCK.out, E9.1], by rw [← E9.2]; exact nums_back N_w2.out F_w2.out.bel, D_wr.out, aesC.below_setRow F_w2.out.bel (by omega) _⟩
end Go.Proofs.YtniimgbljhmcoaaDoor.sgC
