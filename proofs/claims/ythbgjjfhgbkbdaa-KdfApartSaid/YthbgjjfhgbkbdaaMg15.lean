/-
  4 texts of a proof, joined.
-/
import Derived.Test.YthbgjjfhgbkbdaaMg14
import Derived.Laws.CopyOwn

/-
  CMAC: bytes put behind a chain.
-/
namespace Go.Proofs.Ythbgjjfhgbkbdaa.aesC
open Go.ChangeShapes Go.WideShapes Go.ChangeAt Go.RowKit
open Go.Proofs.Ythbgjjfhgbkbdaa.memC Go.Proofs.Ythbgjjfhgbkbdaa.genC Go.Proofs.Ythbgjjfhgbkbdaa.aesM Go.Proofs.Ythbgjjfhgbkbdaa.butC Go.Proofs.Ythbgjjfhgbkbdaa.freeC
set_option linter.unusedVariables false
def lenOf : Value → Nat
  | .slice _ n _ => n
  | _ => 0
/-- c.rest[q:] -/
theorem cut_rest (g q : Nat) (hq : q < 16) (w : World) :
    (Instr.sliceAt 32 (.pointer (some ⟨g, 32, none⟩)) (some (.int .i64 (q : Int))) none none).run Try.prog w = .ok (.slice (some ⟨g, 32 + q, none⟩) (16 - q) (16 - q)) w := by
  have h1 : (q : Int) ≤ 16 := by omega
  have h2 : (q : Int) < 16 := by omega
  have h3 : ¬ 16 = q := by omega
  have h4 : ¬ (16 : Int) = (q : Int) := by omega
  go_simp
/-- b[p:] -/
theorem cut_from (A : Addr) (m c p : Nat) (hp : p ≤ m) (hc : m ≤ c) (w : World) :
    (Instr.slice 22 (.slice (some A) m c) (some (.int .i64 (p : Int))) none none).run Try.prog w = .ok (.slice (if c = p then some A else some (A.add p)) (m - p) (c - p)) w := by
  have h1 : (p : Int) ≤ (m : Int) := by omega
  by_cases h : c = p
  · subst h
    have h2 : m = c := by omega
    subst h2
    go_simp
  · rw [if_neg h]
    go_simp
theorem off_cut {b o c p k : Nat} (h : Off (some ⟨b, o, none⟩) k) : Off (if c = p then some (⟨b, o, none⟩ : Addr) else some ((⟨b, o, none⟩ : Addr).add p)) k := by
  intro a ha
  have h1 : b ≠ k := h _ rfl
  split at ha <;> obtain rfl := Option.some.inj ha
  · exact h1
  · rw [memC.add_plain]; exact h1
theorem getD_take {a : List Nat} {n i : Nat} (h : i < n) : (a.take n).getD i 0 = a.getD i 0 := by
  rw [List.getD_eq_getElem?_getD, List.getElem?_take, if_pos h, ← List.getD_eq_getElem?_getD]
theorem getD_drop (a : List Nat) (n i : Nat) : (a.drop n).getD i 0 = a.getD (n + i) 0 := by
  rw [List.getD_eq_getElem?_getD, List.getElem?_drop, ← List.getD_eq_getElem?_getD]
/-- some bytes more in a block -/
theorem blk_more {xs ys : List Nat} {N q p : Nat} (hx : xs.length = 16 * N + q) (hy : ys.length = p) (hq : q + p ≤ 16) :
    blkL (xs ++ ys) N = (blkL xs N).take q ++ (ys ++ (blkL xs N).drop (q + p)) := by
  have lt : ((blkL xs N).take q).length = q := by rw [List.length_take, blkL_len]; omega
  have ld : ((blkL xs N).drop (q + p)).length = 16 - (q + p) := by rw [List.length_drop, blkL_len]
  refine getD_ext (by rw [List.length_append, List.length_append, lt, ld, hy, blkL_len]; omega) fun i hi => ?_
  rw [blkL_len] at hi
  rw [blkL_at hi]
  rcases Nat.lt_or_ge i q with h1 | h1
  · rw [getD_left (by omega), getD_left (by omega), getD_take h1, blkL_at hi]
  · rw [getD_right (by omega), getD_right (a := (blkL xs N).take q) (by omega), lt, hx]
    rcases Nat.lt_or_ge i (q + p) with h2 | h2
    · rw [getD_left (by omega)]; congr 1; omega
    · rw [getD_right (by omega), getD_drop, hy, show q + p + (i - q - p) = i by omega, blkL_at hi, getD_out (by omega), getD_out (by omega)]
theorem laid_cells {k m r r' : List Nat} {ys : List Int} {q p : Nat} (lk : k.length = 16) (lm : m.length = 16) (lr : r.length = 16) (hq : q + p ≤ 16) (hr : vl r' = (vl r).take q ++ (ys.map (Value.int .u8) ++ (vl r).drop (q + p))) (h : Nat) :
    (chC k m r h).take (32 + q) ++ (ys.map (Value.int .u8) ++ (chC k m r h).drop (32 + q + p)) = chC k m r' h := by
  have l0 : (vl k ++ vl m).length = 32 := by rw [List.length_append, vl_len, vl_len, lk, lm]
  have e1 : (chC k m r h).take (32 + q) = (vl k ++ vl m) ++ (vl r).take q := by
    rw [chC_rest, List.take_append, l0, List.take_of_length_le (by omega), show 32 + q - 32 = q by omega, List.take_append_of_le_length (by rw [vl_len]; omega)]
  have e2 : (chC k m r h).drop (32 + q + p) = (vl r).drop (q + p) ++ [.int .i64 (h : Int)] := by
    rw [chC_rest, List.drop_append, l0, List.drop_eq_nil_of_le (by omega), List.nil_append, show 32 + q + p - 32 = q + p by omega, List.drop_append_of_le_length (by rw [vl_len]; omega)]
  rw [e1, e2, chC_rest, hr]
  simp only [List.append_assoc]
theorem vl_nats {ys : List Int} (h : ∀ x ∈ ys, Byte x) : ys.map (Value.int .u8) = vl (nats ys) := nats_vec h
/-- copy(c.rest[q:], b) -/
theorem wpList_copy_ch {ops : Array Oper} {tail : List Oper} {o : Oper} {a : Act} {w : World} {Q : Exit → Act → World → Prop} (hgd : o.guard = none) (d s : Operand)
    (ho : o.op = .call { callee := .builtin .copy, args := #[d, s], argTypes := #[22, 22] }) (hsz : (Try.prog.info? 5).map (·.size) = some 1)
    (g N q m c p h : Nat) (k mac xs : List Nat) (ys : List Int) (A : Addr) (hd : a.eval d = .slice (some ⟨g, 32 + q, none⟩) (16 - q) (16 - q)) (hs : a.eval s = .slice (some A) m c)
    (C0 : Chain w g k mac (blkL xs N) h) (NB : Nums .u8 w w.heap.size (some A) m ys) (hy : ∀ y ∈ ys, Byte y) (hl : xs.length = 16 * N + q) (hq16 : q ≤ 16) (hp : min m (16 - q) = p)
    (hK : ∀ w', Chain w' g k mac (blkL (xs ++ nats (ys.take p)) N) h → But g w w' → wpList Try.prog ops Q tail (a.put o.dst (.int .i64 (p : Int))) w') : wpList Try.prog ops Q (o :: tail) a w := by
  have hpm : p ≤ m := by omega
  have hlt : (ys.take p).length = p := by rw [List.length_take, NB.len]; omega
  have hl2 : ((ys.take p).map (Value.int .u8)).length = p := by rw [List.length_map, hlt]
  refine Go.wpList_copy_own hgd d s _ _ ho _ Try.underlying22 hsz g (32 + q) (16 - q) (16 - q) A m c hd hs _ _ C0.row ((ys.take p).map (Value.int .u8)) (by rw [hl2, ← hp]) ((NB.upto hpm).news rfl) ?_ ?_ ?_
  · rw [hl2]; simp only [List.size_toArray, chC_len C0.lk C0.lm C0.lr]; omega
  · intro v hv
    obtain ⟨z, _, rfl⟩ := List.mem_map.1 hv
    rfl
  · rw [hl2]
    have yt : ∀ y ∈ ys.take p, Byte y := fun y h => hy y (List.mem_of_mem_take h)
    have e := laid_cells (k := k) (m := mac) (r := blkL xs N) (r' := blkL (xs ++ nats (ys.take p)) N) (ys := ys.take p) (q := q) (p := p) C0.lk C0.lm C0.lr (by omega)
      (by rw [blk_more hl (by rw [nats_len, hlt]) (by omega), vl_app, vl_app, vl_nats yt]; unfold vl; rw [List.map_take, List.map_drop]) h
    refine hK _ ⟨?_, C0.lk, C0.lm, blkL_len _ _⟩ ((But.refl w).setRow _)
    rw [setRow_heap _ _ _ _ _ _ C0.row, ← e]
/-- a chain of bytes lies in block g -/
def ChV (w : World) (g : Nat) (k xs : List Nat) : Prop := ∃ N q, xs.length = 16 * N + q ∧ q ≤ 16 ∧ (q = 0 → N = 0) ∧ Chain w g k (cbc k xs N) (blkL xs N) q
/-- while bytes are put behind -/
def TakeR (w : World) (g : Nat) (k T : List Nat) (v : Value) (wr : World) : Prop :=
  ∃ A m c xs rest, v = .slice A m c ∧ m ≤ c ∧ c ≤ 9223372036854775807 ∧ Nums .u8 wr wr.heap.size A m rest ∧ (0 < m → Off A g) ∧ ChV wr g k xs ∧ xs ++ nats rest = T ∧ (∀ y ∈ rest, Byte y) ∧ BY xs ∧ But g w wr
def TakeRet (w : World) (g : Nat) (k T : List Nat) (e : Ending) (w' : World) : Prop := e = .returned (.tuple #[]) ∧ ChV w' g k T ∧ But g w w'
theorem nats_split (ys : List Int) (p : Nat) : nats (ys.take p) ++ nats (ys.drop p) = nats ys := by rw [← nats_app, List.take_append_drop]
set_option maxRecDepth 100000 in
set_option maxHeartbeats 1000000 in
theorem take_any (g : Nat) (k xs : List Nat) (ys : List Int) (A : Option Addr) (n c : Nat) (w : World) (h : ChV w g k xs) (hb : Nums .u8 w w.heap.size A n ys) (hA : 0 < n → Off A g) (hc : n ≤ c) (hc2 : c ≤ 9223372036854775807)
    (yk : BY k) (hx : BY xs) (hy : ∀ y ∈ ys, Byte y) :
    Calls Try.prog 40 #[.pointer (some ⟨g, 0, none⟩), .slice A n c] w (TakeRet w g k (xs ++ nats ys)) := by
  obtain ⟨i0, hi0, hz0, hz1, hz2⟩ := info_parts byte_inf
  have T1 := Lib.hid hi0; have T3 := Lib.hid hz1
  have R0 : TakeR w g k (xs ++ nats ys) (.slice A n c) w := ⟨A, n, c, xs, ys, rfl, hc, hc2, hb, hA, h, rfl, hy, hx, But.refl _⟩
  obtain ⟨T, hT⟩ : ∃ T, T = xs ++ nats ys := ⟨_, rfl⟩
  rw [← hT] at R0 ⊢
  have YK := Lib.hid yk
  clear hT hx hy h hb hA hc hc2 hi0 hz0 hz1 hz2
  go_enter Try.func40, Try.ntmps40
  go_wp2_with fail
  go_loopw [1] (fun v wr => TakeR w g k T v wr) (fun v _ => lenOf v)
  case atStart => exact R0
  case round =>
    obtain ⟨A, m, c, xs', rest, rfl, hmc, hc2, NB, HO, SV, hT, hy, hx, BU⟩ := hrel
    by_cases hm : 0 < m
    · obtain ⟨b, o, rfl, hbb, hcell⟩ := NB.at_ hm
      obtain ⟨N, q, hlen, hq16, hq0, C0⟩ := SV
      have hm0 : (0 : Int) < (m : Int) := by omega
      have HNB := Lib.hid NB
      have HOO := Lib.hid (HO hm)
      have HTT := Lib.hid hT
      have HBU := Lib.hid BU
      have HL := Lib.hid hlen
      have HX := Lib.hid hx
      have HY := Lib.hid hy
      have HC := Lib.hid C0
      have HSZ := Lib.hid (show (Try.prog.info? 5).map (·.size) = some 1 by rw [T1.out]; exact congrArg some T3.out)
      have cn := C0.has
      clear hcell NB HO hT BU hlen hx hy C0
      by_cases hf : q = 16
      · have hfz : ((q : Int) = 16) := by omega
        have MX := Lib.hid (mix_any g k _ _ q wr HC.out YK.out (cbc_by YK.out HC.out.lk xs' N) (blkL_by HX.out N))
        have HL2 := Lib.hid (show xs'.length = 16 * (N + 1) + 0 by have := HL.out; omega)
        have HQ0 := Lib.hid hq0
        have HF := Lib.hid hf
        clear hq0 hf
        go_upto_region 3 with (first
          | (go_at_call 43; (with_reducible refine MX.out.mono ?_); rintro e w1 ⟨rfl, D1⟩))
        have C1 : Chain w1 g k (cbc k xs' (N + 1)) (blkL xs' (N + 1)) 0 := by
          rw [blkL_none (by have := HL2.out; omega)]; exact D1.ch
        have HD1 := Lib.hid D1.but
        have HC1 := Lib.hid C1
        have HNB1 := Lib.hid (D1.but.nums HNB.out fun _ => HOO.out)
        have cn1 := C1.has
        clear C1 D1 cn MX hfz
        obtain ⟨p, hp⟩ : ∃ p, min m (16 - 0) = p := ⟨_, rfl⟩
        have hp0 : 0 < p := by omega
        have hpm : p ≤ m := by omega
        have hpq : 0 + p ≤ 16 := by omega
        have HP := Lib.hid hp
        obtain ⟨q2, hq2⟩ : ∃ q2, q2 = 0 + p := ⟨_, rfl⟩
        have hqz : (0 : Int) + (p : Int) = (q2 : Int) := by omega
        have hq2b : (q2 : Int) ≤ 16 := by omega
        have HQ2 := Lib.hid hq2
        have sl := cut_rest g 0 (by omega)
        clear hp hq2
        go_still_tail 9, (by kernel_rfl)
        change wpList _ _ _ _ _ w1.drew
        clear sl cn1
        have HSD := Lib.hid (HC1.out.heap (w' := w1.drew) rfl)
        have HND := Lib.hid (HNB1.out.heap (w' := w1.drew) rfl)
        obtain ⟨A2, hA2⟩ : ∃ A2, A2 = (if c = p then some (⟨b, o, none⟩ : Addr) else some ((⟨b, o, none⟩ : Addr).add p)) := ⟨_, rfl⟩
        have sc := cut_from ⟨b, o, none⟩ m c p hpm hmc
        rw [← hA2] at sc
        have HA2 := Lib.hid hA2
        clear hA2
        go_upto_region 4 with (first
          | (refine wpList_copy_ch rfl (.tmp 22) (.tmp 23) rfl HSZ.out g (N + 1) 0 m c p 0 k _ xs' rest ⟨b, o, none⟩ rfl rfl HSD.out HND.out HY.out HL2.out (by omega) HP.out ?_
             intro w2 S2 B2))
        have cn := S2.has
        have fn := S2.frozen 48
        have HS2 := Lib.hid S2
        have HB2 := Lib.hid B2
        clear S2 B2
        go_upto_region 5 with fail
        have S4 := HS2.out.putHas q2
        have B4 : But g wr (w2.setCell ⟨g, 48, none⟩ (.int .i64 (q2 : Int))) := (HD1.out.trans (((But.refl w1).heap (w2 := w1.drew) rfl rfl rfl rfl).trans HB2.out)).setCell 48 _
        generalize w2.setCell ⟨g, 48, none⟩ (.int .i64 (q2 : Int)) = w4 at *
        have HS4 := Lib.hid S4
        have HB4 := Lib.hid B4
        clear cn fn S4 B4 hqz
        go_wp2_with fail
        clear sc
        go_roundw
        case rel =>
          have lt : (nats (rest.take p)).length = p := by rw [nats_len, List.length_take, HNB.out.len]; omega
          have B6 := HB4.out
          refine ⟨A2, m - p, c - p, xs' ++ nats (rest.take p), rest.drop p, rfl, by omega, by omega, ?_, fun _ => by rw [HA2.out]; exact off_cut HOO.out, ⟨N + 1, q2, ?_, by omega, by have := HQ2.out; omega, ?_⟩, ?_, fun y h => HY.out y (List.mem_of_mem_drop h), ?_, HBU.out.trans B6⟩
          · refine B6.nums ?_ (fun _ => by rw [HA2.out]; exact off_cut HOO.out)
            rw [HA2.out]; exact HNB.out.cut hpm hmc
          · rw [List.length_append, lt, HL2.out, HQ2.out]; omega
          · have e := cbc_app k xs' (nats (rest.take p)) (n := N + 1) (by have := HL2.out; omega)
            rw [e]; exact HS4.out
          · rw [List.append_assoc, nats_split]; exact HTT.out
          · intro z hz
            rcases List.mem_append.1 hz with h1 | h1
            · exact HX.out z h1
            · exact nats_by (fun y h => HY.out y (List.mem_of_mem_take h)) z h1
        case measure => simp [lenOf]; omega
      · have hfz : ¬ ((q : Int) = 16) := by omega
        have hqlt : q < 16 := by omega
        have HD1 : Hid (But g wr wr) := Lib.hid (But.refl _)
        have HQ0 := Lib.hid hq0
        clear hf hq0
        go_upto_region 3 with fail
        clear hfz cn
        have cn1 := HC.out.has
        have HNB1 := Lib.hid HNB.out
        obtain ⟨p, hp⟩ : ∃ p, min m (16 - q) = p := ⟨_, rfl⟩
        have hp0 : 0 < p := by omega
        have hpm : p ≤ m := by omega
        have hpq : q + p ≤ 16 := by omega
        have HP := Lib.hid hp
        obtain ⟨q2, hq2⟩ : ∃ q2, q2 = q + p := ⟨_, rfl⟩
        have hqz : (q : Int) + (p : Int) = (q2 : Int) := by omega
        have hq2b : (q2 : Int) ≤ 16 := by omega
        have HQ2 := Lib.hid hq2
        have sl := cut_rest g q (by omega)
        clear hp hq2
        go_still_tail 9, (by kernel_rfl)
        change wpList _ _ _ _ _ wr.drew
        clear sl cn1
        have HSD := Lib.hid (HC.out.heap (w' := wr.drew) rfl)
        have HND := Lib.hid (HNB1.out.heap (w' := wr.drew) rfl)
        obtain ⟨A2, hA2⟩ : ∃ A2, A2 = (if c = p then some (⟨b, o, none⟩ : Addr) else some ((⟨b, o, none⟩ : Addr).add p)) := ⟨_, rfl⟩
        have sc := cut_from ⟨b, o, none⟩ m c p hpm hmc
        rw [← hA2] at sc
        have HA2 := Lib.hid hA2
        clear hA2
        go_upto_region 4 with (first
          | (refine wpList_copy_ch rfl (.tmp 22) (.tmp 23) rfl HSZ.out g N q m c p q k _ xs' rest ⟨b, o, none⟩ rfl rfl HSD.out HND.out HY.out HL.out (by omega) HP.out ?_
             intro w2 S2 B2))
        have cn := S2.has
        have fn := S2.frozen 48
        have HS2 := Lib.hid S2
        have HB2 := Lib.hid B2
        clear S2 B2
        go_upto_region 5 with fail
        have S4 := HS2.out.putHas q2
        have B4 : But g wr (w2.setCell ⟨g, 48, none⟩ (.int .i64 (q2 : Int))) := (HD1.out.trans (((But.refl wr).heap (w2 := wr.drew) rfl rfl rfl rfl).trans HB2.out)).setCell 48 _
        generalize w2.setCell ⟨g, 48, none⟩ (.int .i64 (q2 : Int)) = w4 at *
        have HS4 := Lib.hid S4
        have HB4 := Lib.hid B4
        clear cn fn S4 B4 hqz
        go_wp2_with fail
        clear sc
        go_roundw
        case rel =>
          have lt : (nats (rest.take p)).length = p := by rw [nats_len, List.length_take, HNB.out.len]; omega
          have B6 := HB4.out
          refine ⟨A2, m - p, c - p, xs' ++ nats (rest.take p), rest.drop p, rfl, by omega, by omega, ?_, fun _ => by rw [HA2.out]; exact off_cut HOO.out, ⟨N, q2, ?_, by omega, by have := HQ2.out; omega, ?_⟩, ?_, fun y h => HY.out y (List.mem_of_mem_drop h), ?_, HBU.out.trans B6⟩
          · refine B6.nums ?_ (fun _ => by rw [HA2.out]; exact off_cut HOO.out)
            rw [HA2.out]; exact HNB.out.cut hpm hmc
          · rw [List.length_append, lt, HL.out, HQ2.out]; omega
          · have e := cbc_app k xs' (nats (rest.take p)) (n := N) (by have := HL.out; omega)
            rw [e]; exact HS4.out
          · rw [List.append_assoc, nats_split]; exact HTT.out
          · intro z hz
            rcases List.mem_append.1 hz with h1 | h1
            · exact HX.out z h1
            · exact nats_by (fun y h => HY.out y (List.mem_of_mem_take h)) z h1
        case measure => simp [lenOf]; omega
    · have e : m = 0 := by omega
      subst e
      have hr : rest = [] := NB.zero
      subst hr
      rw [show nats [] = [] from rfl, List.append_nil] at hT
      subst hT
      have HSV := Lib.hid SV
      have HBU := Lib.hid BU
      clear NB HO SV BU hm
      go_wp2_with fail
      exact bodyPost_end (results_none rfl _ _ _) rfl ⟨rfl, HSV.out, HBU.out⟩
end Go.Proofs.Ythbgjjfhgbkbdaa.aesC

/-
  AES: the document's boxes.
-/
namespace Go.Proofs.Ythbgjjfhgbkbdaa.aesC
open Go.ChangeShapes Go.WideShapes Go.ChangeAt Go.RowKit
open Go.Proofs.Ythbgjjfhgbkbdaa.memC Go.Proofs.Ythbgjjfhgbkbdaa.genC Go.Proofs.Ythbgjjfhgbkbdaa.aesM Go.Proofs.Ythbgjjfhgbkbdaa.freeC
set_option linter.unusedVariables false
def PL : List Nat := (List.range 256).map p3
theorem PL_len : PL.length = 256 := by unfold PL; rw [List.length_map, List.length_range]
theorem PL_at {i : Nat} (h : i < 256) : PL.getD i 0 = p3 i := getD_map h
theorem outS_len : ∀ i, (outS i).length = 256
  | 0 => by rw [outS, List.length_set, List.length_replicate]
  | i + 1 => by rw [outS, List.length_set, outS_len i]
/-- the blocks that a call of Boxes lays first -/
structure PX (w : World) (p : List Nat) (wr : World) : Prop where
  b0 : Bl 95 wr w.heap.size (zs 256)
  b1 : Bl 95 wr (w.heap.size + 1) p
  sz : wr.heap.size = w.heap.size + 1 + 1
  bel : Below w.heap.size w wr
/-- .. and all of them -/
structure BX (w : World) (o : List Nat) (wr : World) : Prop where
  b0 : Bl 95 wr w.heap.size (zs 256)
  b1 : Bl 95 wr (w.heap.size + 1) PL
  b2 : Bl 95 wr (w.heap.size + 1 + 1) o
  bel : Below w.heap.size w wr
section
variable {w wr w' : World} {p o : List Nat}
theorem PX.s1 (B : PX w p wr) (j x : Nat) : PX w (p.set j x) (wr.setCell ⟨w.heap.size + 1, j, none⟩ (.int .u8 (x : Int))) :=
  ⟨B.b0.other (by show w.heap.size + 1 ≠ w.heap.size; omega) _, B.b1.stored j x, by simpa [World.setCell] using B.sz, B.bel.setCell (p := ⟨w.heap.size + 1, j, none⟩) (by show w.heap.size ≤ w.heap.size + 1; omega) _⟩
theorem px_new (w : World) (p : List Nat) : PX w p ((w.alloc (.cells (vec (zs 256)) 95)).alloc (.cells (vec p) 95)) := by
  refine ⟨(Bl.new w _ _).alloc _, ?_, by rw [alloc_size, alloc_size], ((Below.refl _ _).alloc (Nat.le_refl _) _).alloc (by simp) _⟩
  have := Bl.new (w.alloc (.cells (vec (zs 256)) 95)) 95 p
  rw [alloc_size] at this; exact this
theorem PX.out (B : PX w PL wr) (o : List Nat) : BX w o (wr.alloc (.cells (vec o) 95)) := by
  refine ⟨B.b0.alloc _, B.b1.alloc _, ?_, B.bel.alloc B.bel.size _⟩
  rw [← B.sz]; exact Bl.new wr _ o
theorem BX.heap (B : BX w o wr) (e : w'.heap = wr.heap) (e1 : w'.os = wr.os) (e2 : w'.tape = wr.tape) (e3 : w'.output = wr.output) : BX w o w' :=
  ⟨B.b0.heap e, B.b1.heap e, B.b2.heap e, B.bel.trans ⟨e1, e2, e3, by rw [e]; exact Nat.le_refl _, fun k _ => by rw [e]⟩⟩
theorem BX.s2 (B : BX w o wr) (j x : Nat) : BX w (o.set j x) (wr.setCell ⟨w.heap.size + 1 + 1, j, none⟩ (.int .u8 (x : Int))) :=
  ⟨B.b0.other (by show w.heap.size + 1 + 1 ≠ w.heap.size; omega) _, B.b1.other (by show w.heap.size + 1 + 1 ≠ w.heap.size + 1; omega) _, B.b2.stored j x, B.bel.setCell (p := ⟨w.heap.size + 1 + 1, j, none⟩) (by show w.heap.size ≤ w.heap.size + 1 + 1; omega) _⟩
end
theorem rturn_lt {c : Nat} (h : c < 256) : rturn c < 256 := rot_lt h 4
set_option maxRecDepth 100000 in
set_option maxHeartbeats 1000000 in
theorem boxes_any (w : World) : Calls Try.prog 59 #[] w (Ret w (.agg (vec tbl))) := by
  obtain ⟨Z, hZ⟩ : ∃ Z, Z = vec (zs 256) := ⟨_, rfl⟩
  have hzv := zero256
  rw [← hZ] at hzv
  obtain ⟨W, hW⟩ : ∃ W, W = (w.alloc (.cells Z 95)).alloc (.cells Z 95) := ⟨_, rfl⟩
  have T1 : PX w (zs 256) W := by rw [hW, hZ]; exact px_new w _
  have hpl : PL.length = (zs 256).length := by rw [PL_len, zs_len]
  have HP := Lib.hid hpl
  have T2 := T1.s1 0 (PL.getD 0 0)
  rw [show (zs 256).set 0 (PL.getD 0 0) = mixP PL (zs 256) 1 by have := mixP_set hpl (j := 0) (by rw [zs_len]; decide); rwa [mixP_zero] at this] at T2
  have HT2 := Lib.hid (show PX w (mixP PL (zs 256) 1) (W.setCell ⟨w.heap.size + 1, 0, none⟩ (.int .u8 1)) from T2)
  have f0 := T1.b1.frozen 0
  have c0 := T1.b1.cell (j := 0) (by rw [zs_len]; decide)
  have HZ := Lib.hid hZ.symm
  have UT := Lib.hid (show (Try.prog.info? 95).map (·.size) = some (vec tbl).size by rw [b256_info, vec_size]; rfl)
  have ZT := Lib.hid (show (vec (zs 256)).size = (vec tbl).size by rw [vec_size, vec_size]; rfl)
  generalize (zs 256).getD 0 0 = z0 at *
  clear T1 T2 hpl hZ
  go_enter Try.func59, Try.ntmps59
  go_upto_region 2 with fail
  rw [← hW]
  clear hW
  go_upto_region 3 with fail
  generalize W.setCell ⟨w.heap.size + 1, 0, none⟩ (.int .u8 1) = W2 at *
  clear f0 c0
  go_wp2_with fail
  go_loopw [2] (fun i wr => ∃ m n : Nat, n < 256 ∧ Hid (m = n + 1) ∧ i = .int .i64 m ∧ PX w (mixP PL (zs 256) m) wr) (fun i _ => 256 - (intOf i).toNat)
  case atStart => exact ⟨1, 0, by omega, Lib.hid rfl, rfl, HT2.out⟩
  case round =>
    obtain ⟨m, n, hn, hm, rfl, BB⟩ := hrel
    have hm' := hm.out
    have hmn : (m : Int) - 1 = (n : Int) := by omega
    by_cases hlt : m < 256
    · have hmz : (m : Int) < 256 := by omega
      have hnz : (n : Int) < 256 := by omega
      have hlen : (mixP PL (zs 256) m).length = 256 := by rw [mixP_len HP.out, zs_len]
      have c1 := BB.b1.cell (j := n) (by rw [hlen]; omega)
      rw [mixP_new HP.out (by omega), PL_at (by omega)] at c1
      have c2 := BB.b1.cell (j := m) (by rw [hlen]; exact hlt)
      have f2 := BB.b1.frozen m
      have hst := BB.s1 m (PL.getD m 0)
      rw [mixP_set HP.out (by rw [zs_len]; exact hlt), PL_at hlt] at hst
      have hp : p3 m = tms (p3 n) 3 := by rw [hm']; rfl
      have TT := Lib.hid (fun w => (show Calls Try.prog 62 #[.int .u8 ((p3 n : Nat) : Int), .int .u8 3] w (Same w (.int .u8 ((p3 m : Nat) : Int))) from by rw [hp]; exact times_any (p3 n) 3 w (p3_lt n) (by decide)))
      have hy := p3_lt m
      have HS := Lib.hid hst
      have H1 := Lib.hid hm'
      generalize (mixP PL (zs 256) m).getD m 0 = old at *
      generalize p3 n = x at *
      generalize p3 m = y at *
      clear hst hp BB hlen hm hm'
      go_wp2_with (first | (go_at_call 62; (with_reducible refine (TT.out _).mono ?_); rintro e w1 ⟨rfl, rfl⟩))
      go_roundw
      case rel => exact ⟨m + 1, m, hlt, Lib.hid rfl, by go_num, HS.out⟩
      case measure => simp [intOf]; omega
    · have e : m = 256 := by omega
      subst e
      have hf : mixP PL (zs 256) 256 = PL := by have := mixP_full HP.out; rwa [zs_len] at this
      rw [hf] at BB
      have hO := BB.out (zs 256)
      rw [HZ.out] at hO
      have HO := Lib.hid hO
      have HSZ := Lib.hid BB.sz
      have RT := Lib.hid (fun w => (show Calls Try.prog 71 #[.int .u8 0] w (Drew (.int .u8 ((rturn 0 : Nat) : Int)) w) from rturn_any 0 w (by decide)))
      clear BB hf hlt hm hm' hmn hn
      go_upto_region 8 with fail
      rw [HSZ.out]
      have HO2 := HO.out
      generalize wr.alloc (.cells Z 95) = w3 at *
      have c0 := HO2.b2.cell (j := 0) (by rw [zs_len]; decide)
      have f0 := HO2.b2.frozen 0
      have hO3 := HO2.s2 0 (rturn 0)
      rw [show (zs 256).set 0 (rturn 0) = outS 0 from rfl] at hO3
      have HO3 := Lib.hid hO3
      generalize (zs 256).getD 0 0 = z0 at *
      generalize rturn 0 = r0 at *
      clear hO3 HO HO2 hzv
      go_upto_region 9 with (first | (go_at_call 71; (with_reducible refine (RT.out _).mono ?_); rintro e w4 ⟨rfl, j4, rfl⟩))
      have HO4 : Hid (BX w (outS 0) ((w3.drewN j4).setCell ⟨w.heap.size + 1 + 1, 0, none⟩ (.int .u8 (r0 : Int)))) := Lib.hid (HO3.out.heap rfl rfl rfl rfl)
      generalize (w3.drewN j4).setCell ⟨w.heap.size + 1 + 1, 0, none⟩ (.int .u8 (r0 : Int)) = w5 at *
      clear HO3 c0 f0 RT
      go_wp2_with fail
      go_loopw [4] (fun i wr => ∃ n : Nat, n ≤ 255 ∧ i = .int .i64 n ∧ BX w (outS n) wr) (fun i _ => 255 - (intOf i).toNat)
      case atStart => exact ⟨0, by omega, rfl, HO4.out⟩
      case round =>
        obtain ⟨n, hn, rfl, BB⟩ := hrel
        by_cases hlt : n < 255
        · have hnz : (n : Int) < 255 := by omega
          obtain ⟨m, hm⟩ : ∃ m, m = 255 - n := ⟨_, rfl⟩
          have hmz : (255 : Int) - (n : Int) = (m : Int) := by omega
          have mz : (m : Int) < 256 := by omega
          have mn : m < 256 := by omega
          have nn : n < 256 := by omega
          have nz2 : (n : Int) < 256 := by omega
          have wz : IntKind.i64.wrap (m : Int) = (m : Int) := IntWalk.i64_in _ (by omega)
          have c1 := BB.b1.cell (j := n) (by rw [PL_len]; exact nn)
          have c2 := BB.b1.cell (j := m) (by rw [PL_len]; exact mn)
          rw [PL_at nn] at c1
          rw [PL_at mn] at c2
          have hx := p3_lt n
          have hy := p3_lt m
          have hso : outS (n + 1) = (outS n).set (p3 n) (rturn (p3 m)) := by rw [hm]; rfl
          have HS := Lib.hid (fun (w' : World) (B : BX w (outS n) w') => hso ▸ B.s2 (p3 n) (rturn (p3 m)))
          have RT := Lib.hid (fun w => rturn_any (p3 m) w hy)
          have c3 := BB.b2.cell (j := p3 n) (by rw [outS_len]; exact hx)
          have f3 := BB.b2.frozen (p3 n)
          have hb := Lib.hid BB
          generalize (outS n).getD (p3 n) 0 = old at *
          generalize rturn (p3 m) = r at *
          generalize p3 n = x at *
          generalize p3 m = y at *
          have xz : (x : Int) < 256 := by omega
          clear hso BB hm
          go_upto_region 12 with fail
          refine Go.Proofs.Ythbgjjfhgbkbdaa.lastC.wp_region_last 9 (by kernel_rfl) (by kernel_rfl) (by kernel_rfl) (by kernel_rfl) ?_
          simp only [List.take_succ_cons, List.take_zero, List.drop_succ_cons, List.drop_zero]
          repeat (first | go_big_quiet_step ((go_at_call 71; exact Calls.quiet_of (RT.out _))) | quiet_step ((go_at_call 71; exact Calls.quiet_of (RT.out _))))
          refine wpQuiet_nil ?_
          intro w2 hw2
          obtain ⟨n2, hw3⟩ := hw2
          subst hw3
          have HS2 := Lib.hid (HS.out _ (hb.out.heap (w' := wr.drewN n2) rfl rfl rfl rfl))
          go_wp2_with fail
          go_roundw
          case rel => exact ⟨n + 1, by omega, by go_num, HS2.out⟩
          case measure => simp [intOf]; omega
        · have e : n = 255 := by omega
          subst e
          rw [out_all] at BB
          have G1 := Lib.hid BB.b2.row
          have G2 := Lib.hid BB.b0.row
          have BQ := Lib.hid BB.bel
          have OT := Lib.hid (vec_one tbl)
          generalize vec tbl = T at *
          clear BB hlt hn
          go_wp2_with (first
            | (refine wpList_load_row rfl 95 (.tmp 3) rfl (w.heap.size + 1 + 1) rfl _ _ _ _ G1.out Try.underlying95 rfl UT.out ?_)
            | (refine wpList_store_row rfl 95 (.tmp 0) (.tmp 32) rfl w.heap.size _ rfl rfl _ _ G2.out UT.out ZT.out OT.out ?_))
          refine bodyPost_ret (v := .agg T) (results_cell_row Try.results59 _ _ w.heap.size _ _ _ _ (by rfl) (setRow_heap _ _ _ _ _ _ G2.out) Try.underlying95 rfl UT.out) rfl ⟨rfl, ?_⟩
          exact below_setRow BQ.out (by omega) _
end Go.Proofs.Ythbgjjfhgbkbdaa.aesC

/-
  AES: what the round keys' bytes are, one by another.
-/
namespace Go.Proofs.Ythbgjjfhgbkbdaa.aesC
open Go.ChangeShapes Go.WideShapes Go.ChangeAt Go.RowKit
open Go.Proofs.Ythbgjjfhgbkbdaa.memC Go.Proofs.Ythbgjjfhgbkbdaa.genC Go.Proofs.Ythbgjjfhgbkbdaa.aesM Go.Proofs.Ythbgjjfhgbkbdaa.freeC
set_option linter.unusedVariables false
theorem nxt_head {l : List Nat} (hl : l.length = 16) (y : Nat) {c : Nat} (hc : c < 4) :
    (nxt l y).getD c 0 = l.getD c 0 ^^^ box (l.getD (12 + (c + 1) % 4) 0) ^^^ (if c = 0 then y else 0) := by
  obtain ⟨a, b, c', d, e, f, g, i, j, k, m, n, o, p, q, r, rfl⟩ := list16 hl
  rcases (show c = 0 ∨ c = 1 ∨ c = 2 ∨ c = 3 by omega) with rfl | rfl | rfl | rfl
  · refine (?_ : _ = box p ^^^ y ^^^ a).trans (Eq.trans ?_ (?_ : a ^^^ box p ^^^ y = _))
    · kernel_rfl
    · ac_rfl
    · kernel_rfl
  · refine (?_ : _ = box q ^^^ b).trans (Eq.trans ?_ (?_ : b ^^^ box q ^^^ 0 = _))
    · kernel_rfl
    · rw [Nat.xor_zero, Nat.xor_comm]
    · kernel_rfl
  · refine (?_ : _ = box r ^^^ c').trans (Eq.trans ?_ (?_ : c' ^^^ box r ^^^ 0 = _))
    · kernel_rfl
    · rw [Nat.xor_zero, Nat.xor_comm]
    · kernel_rfl
  · refine (?_ : _ = box o ^^^ d).trans (Eq.trans ?_ (?_ : d ^^^ box o ^^^ 0 = _))
    · kernel_rfl
    · rw [Nat.xor_zero, Nat.xor_comm]
    · kernel_rfl
theorem nxt_tail {l : List Nat} (hl : l.length = 16) (y : Nat) {t : Nat} (ht : t < 12) : (nxt l y).getD (4 + t) 0 = (nxt l y).getD t 0 ^^^ l.getD (4 + t) 0 := by
  obtain ⟨a, b, c', d, e, f, g, i, j, k, m, n, o, p, q, r, rfl⟩ := list16 hl
  rcases (show t = 0 ∨ t = 1 ∨ t = 2 ∨ t = 3 ∨ t = 4 ∨ t = 5 ∨ t = 6 ∨ t = 7 ∨ t = 8 ∨ t = 9 ∨ t = 10 ∨ t = 11 by omega) with rfl | rfl | rfl | rfl | rfl | rfl | rfl | rfl | rfl | rfl | rfl | rfl <;> kernel_rfl
section
variable {k : List Nat}
theorem relA {j : Nat} (h : j < 16) : (FL k).getD j 0 = k.getD j 0 := by
  have := FL_at16 (k := k) (n := 0) (by decide) h
  rwa [Nat.mul_zero, Nat.zero_add] at this
theorem relB (hk : BY k) (hl : k.length = 16) {n c i p1 p4 cm : Nat} (hi : i = 4 * (n + 1)) (hn : n ≤ 9) (hc : c < 4) (h1 : i = p1 + 1) (h4 : i = p4 + 4) (hm : cm = (c + 1) % 4) :
    (FL k).getD (i * 4 + c) 0 = (FL k).getD (p4 * 4 + c) 0 ^^^ box ((FL k).getD (p1 * 4 + cm) 0) ^^^ (if c = 0 then rc n else 0) := by
  rw [show i * 4 + c = 16 * (n + 1) + c by omega, show p4 * 4 + c = 16 * n + c by omega, show p1 * 4 + cm = 16 * n + (12 + (c + 1) % 4) by omega, FL_at16 (by omega) (by omega), FL_at16 (by omega) (by omega), FL_at16 (by omega) (by omega)]
  exact nxt_head (rk_ok hk hl n).2 (rc n) hc
theorem relC (hk : BY k) (hl : k.length = 16) {c i p1 p4 : Nat} (hi : i % 4 ≠ 0) (hi4 : i < 44) (hc : c < 4) (h1 : i = p1 + 1) (h4 : i = p4 + 4) :
    (FL k).getD (i * 4 + c) 0 = (FL k).getD (p4 * 4 + c) 0 ^^^ (FL k).getD (p1 * 4 + c) 0 := by
  obtain ⟨n, q, hq, hin, hn⟩ : ∃ n q, q < 3 ∧ i = 4 * (n + 1) + (q + 1) ∧ n ≤ 9 := ⟨i / 4 - 1, i % 4 - 1, by omega, by omega, by omega⟩
  rw [show i * 4 + c = 16 * (n + 1) + (4 + (4 * q + c)) by omega, show p4 * 4 + c = 16 * n + (4 + (4 * q + c)) by omega, show p1 * 4 + c = 16 * (n + 1) + (4 * q + c) by omega, FL_at16 (by omega) (by omega), FL_at16 (by omega) (by omega), FL_at16 (by omega) (by omega), Nat.xor_comm]
  exact nxt_tail (rk_ok hk hl n).2 (rc n) (by omega)
end
section
variable {xs ys : List Nat} {p m v : Nat}
theorem getD_set_same (h : p < xs.length) : (xs.set p v).getD p 0 = v := by
  rw [List.getD_eq_getElem?_getD, List.getElem?_set_self h]; rfl
theorem getD_set_other {q : Nat} (h : q ≠ p) : (xs.set p v).getD q 0 = xs.getD q 0 := by
  rw [List.getD_eq_getElem?_getD, List.getD_eq_getElem?_getD, List.getElem?_set_ne (Ne.symm h)]
/-- a byte behind those that are there -/
theorem mixP_later (h : m ≤ p) : mixP (xs.set p v) ys m = mixP xs ys m := by
  unfold mixP
  rw [List.take_set_of_le h]
/-- a byte of those that are there is set right -/
theorem mixP_fix (h : xs.length = ys.length) (hp : p < m) (hm : p < ys.length) : (mixP (xs.set p v) ys m).set p (xs.getD p 0) = mixP xs ys m := by
  have hl : (xs.set p v).length = ys.length := by rw [List.length_set, h]
  apply List.ext_getElem?
  intro j
  rcases Nat.lt_or_ge j ys.length with hj | hj
  · rw [getD_eq (by rw [List.length_set, mixP_len hl]; exact hj), getD_eq (by rw [mixP_len h]; exact hj)]
    by_cases e : j = p
    · subst e
      rw [getD_set_same (by rw [mixP_len hl]; exact hm), mixP_new h hp]
    · rw [getD_set_other e]
      rcases Nat.lt_or_ge j m with h1 | h1
      · rw [mixP_new hl h1, mixP_new h h1, getD_set_other e]
      · rw [mixP_old hl h1, mixP_old h h1]
  · rw [List.getElem?_eq_none (by rw [List.length_set, mixP_len hl]; exact hj), List.getElem?_eq_none (by rw [mixP_len h]; exact hj)]
end
end Go.Proofs.Ythbgjjfhgbkbdaa.aesC

/-
  AES: the document's round keys.
-/
namespace Go.Proofs.Ythbgjjfhgbkbdaa.aesC
open Go.ChangeShapes Go.WideShapes Go.ChangeAt Go.RowKit
open Go.Proofs.Ythbgjjfhgbkbdaa.memC Go.Proofs.Ythbgjjfhgbkbdaa.genC Go.Proofs.Ythbgjjfhgbkbdaa.aesM Go.Proofs.Ythbgjjfhgbkbdaa.freeC
set_option linter.unusedVariables false
/-- the blocks that a call of the document's Rounds lays -/
structure WX (w : World) (k f : List Nat) (wr : World) : Prop where
  b0 : Bl 32 wr w.heap.size k
  b1 : Bl 95 wr (w.heap.size + 1) tbl
  b2 : Bl 97 wr (w.heap.size + 1 + 1) (zs 176)
  b3 : Bl 111 wr (w.heap.size + 1 + 1 + 1) f
  sz : wr.heap.size = w.heap.size + 1 + 1 + 1 + 1
  bel : Below w.heap.size w wr
structure OX (w : World) (f o : List Nat) (wr : World) : Prop where
  b2 : Bl 97 wr (w.heap.size + 1 + 1) (zs 176)
  b3 : Bl 111 wr (w.heap.size + 1 + 1 + 1) f
  b4 : Bl 97 wr (w.heap.size + 1 + 1 + 1 + 1) o
  bel : Below w.heap.size w wr
section
variable {w wr w' : World} {k f o : List Nat}
theorem WX.heap (B : WX w k f wr) (e : w'.heap = wr.heap) (e1 : w'.os = wr.os) (e2 : w'.tape = wr.tape) (e3 : w'.output = wr.output) : WX w k f w' :=
  ⟨B.b0.heap e, B.b1.heap e, B.b2.heap e, B.b3.heap e, by rw [e]; exact B.sz, B.bel.trans ⟨e1, e2, e3, by rw [e]; exact Nat.le_refl _, fun k _ => by rw [e]⟩⟩
theorem WX.s3 (B : WX w k f wr) (j x : Nat) : WX w k (f.set j x) (wr.setCell ⟨w.heap.size + 1 + 1 + 1, j, none⟩ (.int .u8 (x : Int))) :=
  ⟨B.b0.other (by show w.heap.size + 1 + 1 + 1 ≠ w.heap.size; omega) _, B.b1.other (by show w.heap.size + 1 + 1 + 1 ≠ w.heap.size + 1; omega) _, B.b2.other (by show w.heap.size + 1 + 1 + 1 ≠ w.heap.size + 1 + 1; omega) _, B.b3.stored j x, by simpa [World.setCell] using B.sz, B.bel.setCell (p := ⟨w.heap.size + 1 + 1 + 1, j, none⟩) (by show w.heap.size ≤ w.heap.size + 1 + 1 + 1; omega) _⟩
theorem wx_new (w : World) (k f : List Nat) : WX w k f ((((w.alloc (.cells (vec k) 32)).alloc (.cells (vec tbl) 95)).alloc (.cells (vec (zs 176)) 97)).alloc (.cells (vec f) 111)) := by
  obtain ⟨w1, h1⟩ : ∃ w1, w1 = w.alloc (.cells (vec k) 32) := ⟨_, rfl⟩
  obtain ⟨w2, h2⟩ : ∃ w2, w2 = w1.alloc (.cells (vec tbl) 95) := ⟨_, rfl⟩
  obtain ⟨w3, h3⟩ : ∃ w3, w3 = w2.alloc (.cells (vec (zs 176)) 97) := ⟨_, rfl⟩
  rw [← h1, ← h2, ← h3]
  have e1 : w1.heap.size = w.heap.size + 1 := by rw [h1, alloc_size]
  have e2 : w2.heap.size = w.heap.size + 1 + 1 := by rw [h2, alloc_size, e1]
  have e3 : w3.heap.size = w.heap.size + 1 + 1 + 1 := by rw [h3, alloc_size, e2]
  have a0 : Bl 32 w1 w.heap.size k := by rw [h1]; exact Bl.new _ _ _
  have a1 : Bl 95 w2 (w.heap.size + 1) tbl := by rw [h2, ← e1]; exact Bl.new _ _ _
  have a2 : Bl 97 w3 (w.heap.size + 1 + 1) (zs 176) := by rw [h3, ← e2]; exact Bl.new _ _ _
  have a02 : Bl 32 w2 w.heap.size k := by rw [h2]; exact a0.alloc _
  have a03 : Bl 32 w3 w.heap.size k := by rw [h3]; exact a02.alloc _
  have a13 : Bl 95 w3 (w.heap.size + 1) tbl := by rw [h3]; exact a1.alloc _
  have b1 : Below w.heap.size w w1 := by rw [h1]; exact alloc_below _ _
  have b2 : Below w.heap.size w w2 := by rw [h2]; exact b1.alloc b1.size _
  have b3 : Below w.heap.size w w3 := by rw [h3]; exact b2.alloc b2.size _
  refine ⟨a03.alloc _, a13.alloc _, a2.alloc _, ?_, by rw [alloc_size, e3], b3.alloc b3.size _⟩
  rw [← e3]; exact Bl.new _ _ _
theorem WX.out (B : WX w k f wr) (o : List Nat) : OX w f o (wr.alloc (.cells (vec o) 97)) := by
  refine ⟨B.b2.alloc _, B.b3.alloc _, ?_, B.bel.alloc B.bel.size _⟩
  rw [← B.sz]; exact Bl.new wr _ o
theorem OX.heap (B : OX w f o wr) (e : w'.heap = wr.heap) (e1 : w'.os = wr.os) (e2 : w'.tape = wr.tape) (e3 : w'.output = wr.output) : OX w f o w' :=
  ⟨B.b2.heap e, B.b3.heap e, B.b4.heap e, B.bel.trans ⟨e1, e2, e3, by rw [e]; exact Nat.le_refl _, fun k _ => by rw [e]⟩⟩
theorem OX.s4 (B : OX w f o wr) (j x : Nat) : OX w f (o.set j x) (wr.setCell ⟨w.heap.size + 1 + 1 + 1 + 1, j, none⟩ (.int .u8 (x : Int))) :=
  ⟨B.b2.other (by show w.heap.size + 1 + 1 + 1 + 1 ≠ w.heap.size + 1 + 1; omega) _, B.b3.other (by show w.heap.size + 1 + 1 + 1 + 1 ≠ w.heap.size + 1 + 1 + 1; omega) _, B.b4.stored j x, B.bel.setCell (p := ⟨w.heap.size + 1 + 1 + 1 + 1, j, none⟩) (by show w.heap.size ≤ w.heap.size + 1 + 1 + 1 + 1; omega) _⟩
end
theorem F_len (k : List Nat) : (FL k).length = (zs 176).length := by rw [FL_len, zs_len]
/-- how often the power was multiplied with 2 -/
def pe (i : Nat) : Nat := (i - 1) / 4
set_option maxRecDepth 100000 in
set_option maxHeartbeats 1000000 in
theorem refrounds_any (k : List Nat) (w : World) (hk : k.length = 16) (yk : BY k) :
    Calls Try.prog 60 #[.agg (vec k), .agg (vec tbl)] w (Ret w (.agg (vec (FL k)))) := by
  obtain ⟨X, hX⟩ : ∃ X, X = vec k := ⟨_, rfl⟩
  obtain ⟨T, hT⟩ : ∃ T, T = vec tbl := ⟨_, rfl⟩
  obtain ⟨Z, hZ⟩ : ∃ Z, Z = vec (zs 176) := ⟨_, rfl⟩
  have hzv := zero11
  rw [← hZ] at hzv
  have hzv2 := zero44
  rw [← hZ] at hzv2
  have T0 := Lib.hid (wx_new w k (zs 176))
  rw [← hX, ← hT]
  rw [← hX, ← hT, ← hZ] at T0
  obtain ⟨W, hW⟩ : ∃ W, W = (((w.alloc (.cells X 32)).alloc (.cells T 95)).alloc (.cells Z 97)).alloc (.cells Z 111) := ⟨_, rfl⟩
  rw [← hW] at T0
  have HZ := Lib.hid hZ.symm
  have HK := Lib.hid hk
  have YK := Lib.hid yk
  have YF := Lib.hid (FL_by yk hk)
  have FN := Lib.hid (F_len k)
  have UR := Lib.hid (show (Try.prog.info? 97).map (·.size) = some (vec (FL k)).size by rw [b176_info, vec_size, FL_len])
  have ZR := Lib.hid (show (vec (zs 176)).size = (vec (FL k)).size by rw [vec_size, vec_size, FL_len, zs_len])
  clear hX hT hZ hk yk
  go_enter Try.func60, Try.ntmps60
  go_upto_region 2 with fail
  rw [← hW]
  clear hW
  go_wp2_with fail
  go_loopw [6, 7] (fun y i wr => ∃ n : Nat, n ≤ 44 ∧ i = .int .i64 n ∧ y = .int .u8 ((rc (pe n) : Nat) : Int) ∧ WX w k (mixP (FL k) (zs 176) (n * 4)) wr) (fun _ i _ => 44 - (intOf i).toNat)
  case atStart => exact ⟨0, by omega, rfl, rfl, by rw [Nat.zero_mul, mixP_zero]; rw [HZ.out] at *; exact T0.out⟩
  case round =>
    obtain ⟨i, hi, rfl, rfl, BB⟩ := hrel
    by_cases hlt : i < 44
    · have hiz : (i : Int) < 44 := by omega
      by_cases h4 : i < 4
      · have hB : WX w k (mixP (FL k) (zs 176) (i * 4 + 0)) wr := BB
        have HB := Lib.hid hB
        have a4 : (i : Int) < 4 := by omega
        have a44 : ¬ (4 : Int) ≤ (i : Int) := by omega
        clear hB BB T0
        go_wp2_with fail
        go_loopw [8] (fun c wx => ∃ c' : Nat, c' ≤ 4 ∧ c = .int .i64 c' ∧ WX w k (mixP (FL k) (zs 176) (i * 4 + c')) wx) (fun c _ => 4 - (intOf c).toNat)
        case atStart => exact ⟨0, by omega, rfl, HB.out⟩
        case round =>
          obtain ⟨c, hc, rfl, BC⟩ := hrel
          by_cases hct : c < 4
          · have hcz : (c : Int) < 4 := by omega
            have hlen : (mixP (FL k) (zs 176) (i * 4 + c)).length = 176 := by rw [mixP_len FN.out, zs_len]
            have cw := BC.b3.cell (j := i * 4 + c) (by rw [hlen]; omega)
            have fw := BC.b3.frozen (i * 4 + c)
            have hst := fun (w' : World) (B : WX w k (mixP (FL k) (zs 176) (i * 4 + c)) w') => B.s3 (i * 4 + c) ((FL k).getD (i * 4 + c) 0)
            rw [mixP_set FN.out (by rw [zs_len]; omega)] at hst
            have HC := Lib.hid BC
            obtain ⟨i4, hi4⟩ : ∃ i4, i4 = 4 * i := ⟨_, rfl⟩
            obtain ⟨j, hj⟩ : ∃ j, j = i4 + c := ⟨_, rfl⟩
            have e1 : (4 : Int) * (i : Int) = (i4 : Int) := by omega
            have e2 : (i4 : Int) + (c : Int) = (j : Int) := by omega
            have i4z : (i4 : Int) < 16 := by omega
            have jz : (j : Int) < 16 := by omega
            have jn : j < 16 := by omega
            have w1 : IntKind.i64.wrap (i4 : Int) = (i4 : Int) := IntWalk.i64_in _ (by omega)
            have w2 : IntKind.i64.wrap (j : Int) = (j : Int) := IntWalk.i64_in _ (by omega)
            have ck := BC.b0.cell (j := j) (by rw [HK.out]; exact jn)
            have hxe : (FL k).getD (i * 4 + c) 0 = k.getD j 0 := by rw [show i * 4 + c = j by omega]; exact relA jn
            rw [hxe] at hst
            have HS := Lib.hid hst
            generalize k.getD j 0 = x at *
            generalize (mixP (FL k) (zs 176) (i * 4 + c)).getD (i * 4 + c) 0 = old at *
            clear hst BC hlen hi4 hj hxe
            go_upto_region 10 with fail
            go_still_tail 10, (by kernel_rfl)
            change wpList _ _ _ _ _ wr.drew
            have HS2 := Lib.hid (HS.out _ (HC.out.heap (w' := wr.drew) rfl rfl rfl rfl))
            go_wp2_with fail
            go_roundw
            case rel => exact ⟨c + 1, by omega, by go_num, HS2.out⟩
            case measure => simp [intOf]; omega
          · have e : c = 4 := by omega
            subst e
            have HE := Lib.hid (show WX w k (mixP (FL k) (zs 176) ((i + 1) * 4)) wr by rw [show (i + 1) * 4 = i * 4 + 4 by omega]; exact BC)
            have hpe : pe (i + 1) = pe i := by unfold pe; omega
            have HP := Lib.hid hpe
            clear hpe BC hct hc
            go_wp2_with fail
            go_roundw
            case rel => exact ⟨i + 1, by omega, by go_num, by rw [HP.out], HE.out⟩
            case measure => simp [intOf]; omega
      · by_cases hmod : i % 4 = 0
        · obtain ⟨p1, hp1⟩ : ∃ p1, i = p1 + 1 := ⟨i - 1, by omega⟩
          obtain ⟨p4, hp4⟩ : ∃ p4, i = p4 + 4 := ⟨i - 4, by omega⟩
          obtain ⟨n, hn⟩ : ∃ n, i = 4 * (n + 1) := ⟨i / 4 - 1, by omega⟩
          obtain ⟨v0, hv0⟩ : ∃ v0, v0 = (FL k).getD (p4 * 4 + 0) 0 ^^^ box ((FL k).getD (p1 * 4 + 1) 0) := ⟨_, rfl⟩
          obtain ⟨F', hF'⟩ : ∃ F', F' = (FL k).set (i * 4) v0 := ⟨_, rfl⟩
          have FN2 := Lib.hid (show F'.length = (zs 176).length by rw [hF', List.length_set, FN.out])
          have hB : WX w k (mixP F' (zs 176) (i * 4 + 0)) wr := by rw [hF', Nat.add_zero, mixP_later (Nat.le_refl _)]; exact BB
          have HB := Lib.hid hB
          have er : (i : Int) % 4 = 0 := by omega
          have a4 : ¬ (i : Int) < 4 := by omega
          have a44 : (4 : Int) ≤ (i : Int) := by omega
          have HP1 := Lib.hid hp1
          have HP4 := Lib.hid hp4
          have HN := Lib.hid hn
          have hpe : pe i = n := by unfold pe; omega
          have hpe2 : pe (i + 1) = n + 1 := by unfold pe; omega
          have hrc : rc (n + 1) = dbl (rc n) := rfl
          rw [hpe]
          have R0 := relB (c := 0) (cm := 1) YK.out HK.out hn (by omega) (by decide) hp1 hp4 rfl
          rw [if_pos rfl, ← hv0, Nat.add_zero] at R0
          have RB := Lib.hid (show ∀ c cm, c < 4 → cm = (c + 1) % 4 → F'.getD (i * 4 + c) 0 = (FL k).getD (p4 * 4 + c) 0 ^^^ box ((FL k).getD (p1 * 4 + cm) 0) from fun c cm hc hm => by
            by_cases h0 : c = 0
            · subst h0
              rw [hF', Nat.add_zero, getD_set_same (by rw [FL_len]; omega), hv0, hm]
            · rw [hF', getD_set_other (by omega), relB (c := c) (cm := cm) YK.out HK.out hn (by omega) hc hp1 hp4 hm, if_neg h0, Nat.xor_zero])
          have RO := Lib.hid (show ∀ j, j < i * 4 → F'.getD j 0 = (FL k).getD j 0 from fun j hj => by rw [hF', getD_set_other (by omega)])
          have RF := Lib.hid (show (mixP F' (zs 176) (i * 4 + 4)).set (i * 4) ((FL k).getD (i * 4) 0) = mixP (FL k) (zs 176) (i * 4 + 4) from by rw [hF']; exact mixP_fix FN.out (by omega) (by rw [zs_len]; omega))
          have RG := Lib.hid (show F'.getD (i * 4) 0 = v0 from by rw [hF', getD_set_same (by rw [FL_len]; omega)])
          have hv0b : v0 < 256 := by rw [hv0]; exact xor_lt (YF.out.at _) (box_lt _)
          have HX := Lib.hid (show bits .xor .u8 (v0 : Int) ((rc n : Nat) : Int) = (((FL k).getD (i * 4) 0 : Nat) : Int) by rw [R0]; exact xor_b hv0b (rc_lt n))
          have TT := Lib.hid (fun w => (show Calls Try.prog 62 #[.int .u8 ((rc n : Nat) : Int), .int .u8 2] w (Same w (.int .u8 ((rc (n + 1) : Nat) : Int))) from by rw [hrc, ← tms2 (rc_lt n)]; exact times_any (rc n) 2 w (rc_lt n) (by decide)))
          have HPE := Lib.hid (show rc (pe (i + 1)) = rc (n + 1) by rw [hpe2])
          generalize rc n = y0 at *
          generalize rc (n + 1) = y1 at *
          clear hB BB T0 hmod R0 hpe hpe2 hrc hn hv0 hF' hv0b hp1 hp4
          go_wp2_with fail
          go_loopw [8] (fun c wx => ∃ c' : Nat, c' ≤ 4 ∧ c = .int .i64 c' ∧ WX w k (mixP F' (zs 176) (i * 4 + c')) wx) (fun c _ => 4 - (intOf c).toNat)
          case atStart => exact ⟨0, by omega, rfl, HB.out⟩
          case round =>
            obtain ⟨c, hc, rfl, BC⟩ := hrel
            by_cases hct : c < 4
            · have hcz : (c : Int) < 4 := by omega
              have hlen : (mixP F' (zs 176) (i * 4 + c)).length = 176 := by rw [mixP_len FN2.out, zs_len]
              have cw := BC.b3.cell (j := i * 4 + c) (by rw [hlen]; omega)
              have fw := BC.b3.frozen (i * 4 + c)
              have hst := fun (w' : World) (B : WX w k (mixP F' (zs 176) (i * 4 + c)) w') => B.s3 (i * 4 + c) (F'.getD (i * 4 + c) 0)
              rw [mixP_set FN2.out (by rw [zs_len]; omega)] at hst
              have HC := Lib.hid BC
              have hp1 := HP1.out
              have hp4 := HP4.out
              have z1 : (i : Int) - 1 = (p1 : Int) := by omega
              have z4 : (i : Int) - 4 = (p4 : Int) := by omega
              have l1 : (p1 : Int) < 44 := by omega
              have l4 : (p4 : Int) < 44 := by omega
              have w1 : IntKind.i64.wrap (p1 : Int) = (p1 : Int) := IntWalk.i64_in _ (by omega)
              have w4 : IntKind.i64.wrap (p4 : Int) = (p4 : Int) := IntWalk.i64_in _ (by omega)
              obtain ⟨c1, hc1⟩ : ∃ c1, c1 = c + 1 := ⟨_, rfl⟩
              obtain ⟨cm, hcm⟩ : ∃ cm, cm = c1 % 4 := ⟨_, rfl⟩
              have y1z : (c : Int) + 1 = (c1 : Int) := by omega
              have y2z : (c1 : Int) % 4 = (cm : Int) := by omega
              have y3z : (c1 : Int).tmod 4 = (cm : Int) := by rw [Int.tmod_eq_emod_of_nonneg (by omega)]; exact y2z
              have cmz : (cm : Int) < 4 := by omega
              have wc1 : IntKind.i64.wrap (c1 : Int) = (c1 : Int) := IntWalk.i64_in _ (by omega)
              have wcm : IntKind.i64.wrap (cm : Int) = (cm : Int) := IntWalk.i64_in _ (by omega)
              have c4 := BC.b3.cell (j := p4 * 4 + c) (by rw [hlen]; omega)
              rw [mixP_new FN2.out (by omega), RO.out _ (by omega)] at c4
              have c1' := BC.b3.cell (j := p1 * 4 + cm) (by rw [hlen]; omega)
              rw [mixP_new FN2.out (by omega), RO.out _ (by omega)] at c1'
              rw [RB.out c cm hct (by rw [hcm, hc1])] at hst
              have hyb := YF.out.at (p1 * 4 + cm)
              have hx := xor_b (YF.out.at (p4 * 4 + c)) (box_lt ((FL k).getD (p1 * 4 + cm) 0))
              have cb := BC.b1.cell (j := (FL k).getD (p1 * 4 + cm) 0) (by rw [show tbl.length = 256 by decide +kernel]; exact hyb)
              rw [show tbl.getD ((FL k).getD (p1 * 4 + cm) 0) 0 = box ((FL k).getD (p1 * 4 + cm) 0) from rfl] at cb
              have HS := Lib.hid hst
              generalize (FL k).getD (p4 * 4 + c) 0 ^^^ box ((FL k).getD (p1 * 4 + cm) 0) = z at *
              generalize (FL k).getD (p4 * 4 + c) 0 = x at *
              generalize box ((FL k).getD (p1 * 4 + cm) 0) = by' at *
              generalize (FL k).getD (p1 * 4 + cm) 0 = y at *
              have yz : (y : Int) < 256 := by omega
              generalize (mixP F' (zs 176) (i * 4 + c)).getD (i * 4 + c) 0 = old at *
              clear hst BC hlen hp1 hp4 hc1 hcm hyb
              go_upto_region 12 with fail
              go_still_tail 21, (by kernel_rfl)
              change wpList _ _ _ _ _ wr.drew
              have HS2 := Lib.hid (HS.out _ (HC.out.heap (w' := wr.drew) rfl rfl rfl rfl))
              go_wp2_with fail
              go_roundw
              case rel => exact ⟨c + 1, by omega, by go_num, HS2.out⟩
              case measure => simp [intOf]; omega
            · have e : c = 4 := by omega
              subst e
              have hlen : (mixP F' (zs 176) (i * 4 + 4)).length = 176 := by rw [mixP_len FN2.out, zs_len]
              have cw := BC.b3.cell (j := i * 4) (by rw [hlen]; omega)
              have fw := BC.b3.frozen (i * 4)
              rw [mixP_new FN2.out (by omega), RG.out] at cw
              have hst := fun (w' : World) (B : WX w k (mixP F' (zs 176) (i * 4 + 4)) w') => B.s3 (i * 4) ((FL k).getD (i * 4) 0)
              rw [RF.out, show i * 4 + 4 = (i + 1) * 4 by omega] at hst
              have HS := Lib.hid hst
              have HC := Lib.hid BC
              have hx := HX.out
              generalize (FL k).getD (i * 4) 0 = z at *
              clear hst BC hlen hct hc
              go_upto_region 15 with fail
              go_still_tail 8, (by kernel_rfl)
              change wpList _ _ _ _ _ wr.drew
              have HS2 := Lib.hid (HS.out _ (by rw [show (i + 1) * 4 = i * 4 + 4 by omega]; exact HC.out.heap (w' := wr.drew) rfl rfl rfl rfl))
              go_wp2_with (first | (go_at_call 62; (with_reducible refine (TT.out _).mono ?_); rintro e w1 ⟨rfl, rfl⟩))
              go_roundw
              case rel => exact ⟨i + 1, by omega, by go_num, by rw [HPE.out], HS2.out⟩
              case measure => simp [intOf]; omega
        · have hB : WX w k (mixP (FL k) (zs 176) (i * 4 + 0)) wr := BB
          have HB := Lib.hid hB
          obtain ⟨r, hr⟩ : ∃ r, r = i % 4 := ⟨_, rfl⟩
          have er : (i : Int) % 4 = (r : Int) := by omega
          have er0 : ¬ (r : Int) = 0 := by omega
          have HR := Lib.hid (show i % 4 ≠ 0 by omega)
          have a4 : ¬ (i : Int) < 4 := by omega
          have a44 : (4 : Int) ≤ (i : Int) := by omega
          obtain ⟨p1, hp1⟩ : ∃ p1, i = p1 + 1 := ⟨i - 1, by omega⟩
          obtain ⟨p4, hp4⟩ : ∃ p4, i = p4 + 4 := ⟨i - 4, by omega⟩
          have HP1 := Lib.hid hp1
          have HP4 := Lib.hid hp4
          clear hB BB T0 hr hmod hp1 hp4
          go_wp2_with fail
          go_loopw [8] (fun c wx => ∃ c' : Nat, c' ≤ 4 ∧ c = .int .i64 c' ∧ WX w k (mixP (FL k) (zs 176) (i * 4 + c')) wx) (fun c _ => 4 - (intOf c).toNat)
          case atStart => exact ⟨0, by omega, rfl, HB.out⟩
          case round =>
            obtain ⟨c, hc, rfl, BC⟩ := hrel
            by_cases hct : c < 4
            · have hcz : (c : Int) < 4 := by omega
              have hlen : (mixP (FL k) (zs 176) (i * 4 + c)).length = 176 := by rw [mixP_len FN.out, zs_len]
              have cw := BC.b3.cell (j := i * 4 + c) (by rw [hlen]; omega)
              have fw := BC.b3.frozen (i * 4 + c)
              have hst := fun (w' : World) (B : WX w k (mixP (FL k) (zs 176) (i * 4 + c)) w') => B.s3 (i * 4 + c) ((FL k).getD (i * 4 + c) 0)
              rw [mixP_set FN.out (by rw [zs_len]; omega)] at hst
              have HC := Lib.hid BC
              have hp1 := HP1.out
              have hp4 := HP4.out
              have z1 : (i : Int) - 1 = (p1 : Int) := by omega
              have z4 : (i : Int) - 4 = (p4 : Int) := by omega
              have l1 : (p1 : Int) < 44 := by omega
              have l4 : (p4 : Int) < 44 := by omega
              have w1 : IntKind.i64.wrap (p1 : Int) = (p1 : Int) := IntWalk.i64_in _ (by omega)
              have w4 : IntKind.i64.wrap (p4 : Int) = (p4 : Int) := IntWalk.i64_in _ (by omega)
              have c4 := BC.b3.cell (j := p4 * 4 + c) (by rw [hlen]; omega)
              rw [mixP_new FN.out (by omega)] at c4
              have c1 := BC.b3.cell (j := p1 * 4 + c) (by rw [hlen]; omega)
              rw [mixP_new FN.out (by omega)] at c1
              rw [relC YK.out HK.out HR.out hlt hct HP1.out HP4.out] at hst
              have hx := xor_b (YF.out.at (p4 * 4 + c)) (YF.out.at (p1 * 4 + c))
              have HS := Lib.hid hst
              generalize (FL k).getD (p4 * 4 + c) 0 ^^^ (FL k).getD (p1 * 4 + c) 0 = z at *
              generalize (FL k).getD (p4 * 4 + c) 0 = x at *
              generalize (FL k).getD (p1 * 4 + c) 0 = y at *
              generalize (mixP (FL k) (zs 176) (i * 4 + c)).getD (i * 4 + c) 0 = old at *
              clear hst BC hlen hp1 hp4
              go_upto_region 13 with fail
              go_still_tail 17, (by kernel_rfl)
              change wpList _ _ _ _ _ wr.drew
              have HS2 := Lib.hid (HS.out _ (HC.out.heap (w' := wr.drew) rfl rfl rfl rfl))
              go_wp2_with fail
              go_roundw
              case rel => exact ⟨c + 1, by omega, by go_num, HS2.out⟩
              case measure => simp [intOf]; omega
            · have e : c = 4 := by omega
              subst e
              have HE := Lib.hid (show WX w k (mixP (FL k) (zs 176) ((i + 1) * 4)) wr by rw [show (i + 1) * 4 = i * 4 + 4 by omega]; exact BC)
              have hpe : pe (i + 1) = pe i := by have := HR.out; unfold pe; omega
              have HP := Lib.hid hpe
              clear hpe BC hct hc
              go_wp2_with fail
              go_roundw
              case rel => exact ⟨i + 1, by omega, by go_num, by rw [HP.out], HE.out⟩
              case measure => simp [intOf]; omega
    · have e : i = 44 := by omega
      subst e
      have hf : mixP (FL k) (zs 176) (44 * 4) = FL k := by have := mixP_full FN.out; rwa [zs_len] at this
      rw [hf] at BB
      have hO := BB.out (zs 176)
      rw [HZ.out] at hO
      have HO := Lib.hid hO
      have HSZ := Lib.hid BB.sz
      clear BB hf hlt hi T0 hO
      go_upto_region 18 with fail
      rw [HSZ.out]
      have HO2 := HO.out
      generalize wr.alloc (.cells Z 97) = w3 at *
      have H3 := Lib.hid HO2
      clear HO HO2 hzv hzv2 HSZ
      go_wp2_with fail
      go_loopw [10] (fun i wr => ∃ n : Nat, n ≤ 44 ∧ i = .int .i64 n ∧ OX w (FL k) (mixP (FL k) (zs 176) (n * 4)) wr) (fun i _ => 44 - (intOf i).toNat)
      case atStart => exact ⟨0, by omega, rfl, by rw [Nat.zero_mul, mixP_zero]; exact H3.out⟩
      case round =>
        obtain ⟨i, hi, rfl, BB⟩ := hrel
        by_cases hlt : i < 44
        · have hiz : (i : Int) < 44 := by omega
          have HB := Lib.hid (show OX w (FL k) (mixP (FL k) (zs 176) (i * 4 + 0)) wr from BB)
          obtain ⟨q, hq⟩ : ∃ q, q = i / 4 := ⟨_, rfl⟩
          obtain ⟨r, hr⟩ : ∃ r, r = i % 4 := ⟨_, rfl⟩
          obtain ⟨m, hm⟩ : ∃ m, m = r * 4 := ⟨_, rfl⟩
          have e1 : (i : Int) / 4 = (q : Int) := by omega
          have e2 : (i : Int) % 4 = (r : Int) := by omega
          have e3 : (r : Int) * 4 = (m : Int) := by omega
          have t1 : (i : Int).tdiv 4 = (q : Int) := by rw [Int.tdiv_eq_ediv_of_nonneg (by omega)]; exact e1
          have t2 : (i : Int).tmod 4 = (r : Int) := by rw [Int.tmod_eq_emod_of_nonneg (by omega)]; exact e2
          have q11 : (q : Int) < 11 := by omega
          have r4 : (r : Int) < 4 := by omega
          have m12 : (m : Int) ≤ 12 := by omega
          have wq : IntKind.i64.wrap (q : Int) = (q : Int) := IntWalk.i64_in _ (by omega)
          have wm : IntKind.i64.wrap (m : Int) = (m : Int) := IntWalk.i64_in _ (by omega)
          have HQ := Lib.hid (show i * 4 = q * 16 + m by omega)
          clear BB hq hr hm
          go_wp2_with fail
          go_loopw [11] (fun c wx => ∃ c' : Nat, c' ≤ 4 ∧ c = .int .i64 c' ∧ OX w (FL k) (mixP (FL k) (zs 176) (i * 4 + c')) wx) (fun c _ => 4 - (intOf c).toNat)
          case atStart => exact ⟨0, by omega, rfl, HB.out⟩
          case round =>
            obtain ⟨c, hc, rfl, BC⟩ := hrel
            by_cases hct : c < 4
            · have hcz : (c : Int) < 4 := by omega
              obtain ⟨s, hs⟩ : ∃ s, s = m + c := ⟨_, rfl⟩
              have e4 : (m : Int) + (c : Int) = (s : Int) := by omega
              have s16 : (s : Int) < 16 := by omega
              have ws : IntKind.i64.wrap (s : Int) = (s : Int) := IntWalk.i64_in _ (by omega)
              have HQ2 := Lib.hid (show i * 4 + c = q * 16 + s by rw [HQ.out, hs]; omega)
              have c3 := BC.b3.cell (j := i * 4 + c) (by rw [FL_len]; omega)
              have hlen : (mixP (FL k) (zs 176) (i * 4 + c)).length = 176 := by rw [mixP_len FN.out, zs_len]
              have c4 := BC.b4.cell (j := q * 16 + s) (by rw [hlen, ← HQ2.out]; omega)
              have f4 := BC.b4.frozen (q * 16 + s)
              have hst := fun (w' : World) (B : OX w (FL k) (mixP (FL k) (zs 176) (i * 4 + c)) w') => B.s4 (i * 4 + c) ((FL k).getD (i * 4 + c) 0)
              rw [mixP_set FN.out (by rw [zs_len]; omega)] at hst
              have HS : Hid (∀ w', OX w (FL k) (mixP (FL k) (zs 176) (i * 4 + c)) w' → OX w (FL k) (mixP (FL k) (zs 176) (i * 4 + c + 1)) (w'.setCell ⟨w.heap.size + 1 + 1 + 1 + 1, q * 16 + s, none⟩ (.int .u8 (((FL k).getD (i * 4 + c) 0 : Nat) : Int)))) := Lib.hid (fun w' B => by rw [← HQ2.out]; exact hst w' B)
              have HC := Lib.hid BC
              generalize (mixP (FL k) (zs 176) (i * 4 + c)).getD (q * 16 + s) 0 = old at *
              generalize (FL k).getD (i * 4 + c) 0 = x at *
              clear hst BC hlen hs
              go_upto_region 24 with fail
              go_still_tail 14, (by kernel_rfl)
              change wpList _ _ _ _ _ wr.drew
              have HS2 := Lib.hid (HS.out _ (HC.out.heap (w' := wr.drew) rfl rfl rfl rfl))
              go_wp2_with fail
              go_roundw
              case rel => exact ⟨_, _, _, _, _, _, _, _, _, _, _, _, _, _, _, _, _, _, _, ⟨c + 1, by omega, by go_num, HS2.out⟩, rfl⟩
              case measure => simp [intOf]; omega
            · have e : c = 4 := by omega
              subst e
              have HE := Lib.hid (show OX w (FL k) (mixP (FL k) (zs 176) ((i + 1) * 4)) wr by rw [show (i + 1) * 4 = i * 4 + 4 by omega]; exact BC)
              clear BC hct hc
              go_wp2_with fail
              go_roundw
              case rel => exact ⟨i + 1, by omega, by go_num, HE.out⟩
              case measure => simp [intOf]; omega
        · have e : i = 44 := by omega
          subst e
          have hf : mixP (FL k) (zs 176) (44 * 4) = FL k := by have := mixP_full FN.out; rwa [zs_len] at this
          rw [hf] at BB
          have G1 := Lib.hid BB.b4.row
          have G2 := Lib.hid BB.b2.row
          have BQ := Lib.hid BB.bel
          have OT := Lib.hid (vec_one (FL k))
          generalize vec (FL k) = R at *
          clear BB hlt hi hf
          go_wp2_with (first
            | (refine wpList_load_row rfl 97 (.tmp 9) rfl (w.heap.size + 1 + 1 + 1 + 1) rfl _ _ _ _ G1.out Try.underlying97 rfl UR.out ?_)
            | (refine wpList_store_row rfl 97 (.tmp 4) (.tmp 112) rfl (w.heap.size + 1 + 1) _ rfl rfl _ _ G2.out UR.out ZR.out OT.out ?_))
          refine bodyPost_ret (v := .agg R) (results_cell_row Try.results60 _ _ (w.heap.size + 1 + 1) _ _ _ _ (by rfl) (setRow_heap _ _ _ _ _ _ G2.out) Try.underlying97 rfl UR.out) rfl ⟨rfl, ?_⟩
          exact below_setRow BQ.out (by omega) _
end Go.Proofs.Ythbgjjfhgbkbdaa.aesC
