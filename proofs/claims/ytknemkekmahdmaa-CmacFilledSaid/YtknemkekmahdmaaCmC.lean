/-
  CMAC: bytes put behind a chain.
-/
import Derived.Test.YtknemkekmahdmaaCmB
import Derived.Laws.CopyOwn
namespace Go.Proofs.Ytknemkekmahdmaa.aesC
open Go.ChangeShapes Go.WideShapes Go.ChangeAt Go.RowKit
open Go.Proofs.Ytknemkekmahdmaa.memC Go.Proofs.Ytknemkekmahdmaa.genC Go.Proofs.Ytknemkekmahdmaa.aesM Go.Proofs.Ytknemkekmahdmaa.butC Go.Proofs.Ytknemkekmahdmaa.freeC
set_option linter.unusedVariables false
def lenOf : Value → Nat
  | .slice _ n _ => n
  | _ => 0
/-- c.rest[q:] -/
theorem cut_rest (g q : Nat) (hq : q < 16) (w : World) :
    (Instr.sliceAt 22 (.pointer (some ⟨g, 32, none⟩)) (some (.int .i64 (q : Int))) none none).run Try.prog w = .ok (.slice (some ⟨g, 32 + q, none⟩) (16 - q) (16 - q)) w := by
  have h1 : (q : Int) ≤ 16 := by omega
  have h2 : (q : Int) < 16 := by omega
  have h3 : ¬ 16 = q := by omega
  have h4 : ¬ (16 : Int) = (q : Int) := by omega
  go_simp
/-- b[p:] -/
theorem cut_from (A : Addr) (m c p : Nat) (hp : p ≤ m) (hc : m ≤ c) (w : World) :
    (Instr.slice 23 (.slice (some A) m c) (some (.int .i64 (p : Int))) none none).run Try.prog w = .ok (.slice (if c = p then some A else some (A.add p)) (m - p) (c - p)) w := by
  have h1 : (p : Int) ≤ (m : Int) := by omega
  by_cases h : c = p
  · subst h
    have h2 : m = c := by omega
    subst h2
    go_simp
  · rw [if_neg h]
    go_simp
theorem off_cut {b o c p k : Nat} (h : Off (some ⟨b, o, none⟩) k) : Off (if c = p then some (⟨b, o, none⟩ : Addr) else some ((⟨b, o, none⟩ : Addr).add p)) k := by
  intro a ha
  have h1 : b ≠ k := h _ rfl
  split at ha <;> obtain rfl := Option.some.inj ha
  · exact h1
  · rw [memC.add_plain]; exact h1
theorem getD_take {a : List Nat} {n i : Nat} (h : i < n) : (a.take n).getD i 0 = a.getD i 0 := by
  rw [List.getD_eq_getElem?_getD, List.getElem?_take, if_pos h, ← List.getD_eq_getElem?_getD]
theorem getD_drop (a : List Nat) (n i : Nat) : (a.drop n).getD i 0 = a.getD (n + i) 0 := by
  rw [List.getD_eq_getElem?_getD, List.getElem?_drop, ← List.getD_eq_getElem?_getD]
/-- some bytes more in a block -/
theorem blk_more {xs ys : List Nat} {N q p : Nat} (hx : xs.length = 16 * N + q) (hy : ys.length = p) (hq : q + p ≤ 16) :
    blkL (xs ++ ys) N = (blkL xs N).take q ++ (ys ++ (blkL xs N).drop (q + p)) := by
  have lt : ((blkL xs N).take q).length = q := by rw [List.length_take, blkL_len]; omega
  have ld : ((blkL xs N).drop (q + p)).length = 16 - (q + p) := by rw [List.length_drop, blkL_len]
  refine getD_ext (by rw [List.length_append, List.length_append, lt, ld, hy, blkL_len]; omega) fun i hi => ?_
  rw [blkL_len] at hi
  rw [blkL_at hi]
  rcases Nat.lt_or_ge i q with h1 | h1
  · rw [getD_left (by omega), getD_left (by omega), getD_take h1, blkL_at hi]
  · rw [getD_right (by omega), getD_right (a := (blkL xs N).take q) (by omega), lt, hx]
    rcases Nat.lt_or_ge i (q + p) with h2 | h2
    · rw [getD_left (by omega)]; congr 1; omega
    · rw [getD_right (by omega), getD_drop, hy, show q + p + (i - q - p) = i by omega, blkL_at hi, getD_out (by omega), getD_out (by omega)]
theorem laid_cells {k m r r' : List Nat} {ys : List Int} {q p : Nat} (lk : k.length = 16) (lm : m.length = 16) (lr : r.length = 16) (hq : q + p ≤ 16) (hr : vl r' = (vl r).take q ++ (ys.map (Value.int .u8) ++ (vl r).drop (q + p))) (h : Nat) :
    (chC k m r h).take (32 + q) ++ (ys.map (Value.int .u8) ++ (chC k m r h).drop (32 + q + p)) = chC k m r' h := by
  have l0 : (vl k ++ vl m).length = 32 := by rw [List.length_append, vl_len, vl_len, lk, lm]
  have e1 : (chC k m r h).take (32 + q) = (vl k ++ vl m) ++ (vl r).take q := by
    rw [chC_rest, List.take_append, l0, List.take_of_length_le (by omega), show 32 + q - 32 = q by omega, List.take_append_of_le_length (by rw [vl_len]; omega)]
  have e2 : (chC k m r h).drop (32 + q + p) = (vl r).drop (q + p) ++ [.int .i64 (h : Int)] := by
    rw [chC_rest, List.drop_append, l0, List.drop_eq_nil_of_le (by omega), List.nil_append, show 32 + q + p - 32 = q + p by omega, List.drop_append_of_le_length (by rw [vl_len]; omega)]
  rw [e1, e2, chC_rest, hr]
  simp only [List.append_assoc]
theorem vl_nats {ys : List Int} (h : ∀ x ∈ ys, Byte x) : ys.map (Value.int .u8) = vl (nats ys) := nats_vec h
/-- copy(c.rest[q:], b) -/
theorem wpList_copy_ch {ops : Array Oper} {tail : List Oper} {o : Oper} {a : Act} {w : World} {Q : Exit → Act → World → Prop} (hgd : o.guard = none) (d s : Operand)
    (ho : o.op = .call { callee := .builtin .copy, args := #[d, s], argTypes := #[23, 23] }) (hsz : (Try.prog.info? 5).map (·.size) = some 1)
    (g N q m c p h : Nat) (k mac xs : List Nat) (ys : List Int) (A : Addr) (hd : a.eval d = .slice (some ⟨g, 32 + q, none⟩) (16 - q) (16 - q)) (hs : a.eval s = .slice (some A) m c)
    (C0 : Chain w g k mac (blkL xs N) h) (NB : Nums .u8 w w.heap.size (some A) m ys) (hy : ∀ y ∈ ys, Byte y) (hl : xs.length = 16 * N + q) (hq16 : q ≤ 16) (hp : min m (16 - q) = p)
    (hK : ∀ w', Chain w' g k mac (blkL (xs ++ nats (ys.take p)) N) h → But g w w' → wpList Try.prog ops Q tail (a.put o.dst (.int .i64 (p : Int))) w') : wpList Try.prog ops Q (o :: tail) a w := by
  have hpm : p ≤ m := by omega
  have hlt : (ys.take p).length = p := by rw [List.length_take, NB.len]; omega
  have hl2 : ((ys.take p).map (Value.int .u8)).length = p := by rw [List.length_map, hlt]
  refine Go.wpList_copy_own hgd d s _ _ ho _ Try.underlying23 hsz g (32 + q) (16 - q) (16 - q) A m c hd hs _ _ C0.row ((ys.take p).map (Value.int .u8)) (by rw [hl2, ← hp]) ((NB.upto hpm).news rfl) ?_ ?_ ?_
  · rw [hl2]; simp only [List.size_toArray, chC_len C0.lk C0.lm C0.lr]; omega
  · intro v hv
    obtain ⟨z, _, rfl⟩ := List.mem_map.1 hv
    rfl
  · rw [hl2]
    have yt : ∀ y ∈ ys.take p, Byte y := fun y h => hy y (List.mem_of_mem_take h)
    have e := laid_cells (k := k) (m := mac) (r := blkL xs N) (r' := blkL (xs ++ nats (ys.take p)) N) (ys := ys.take p) (q := q) (p := p) C0.lk C0.lm C0.lr (by omega)
      (by rw [blk_more hl (by rw [nats_len, hlt]) (by omega), vl_app, vl_app, vl_nats yt]; unfold vl; rw [List.map_take, List.map_drop]) h
    refine hK _ ⟨?_, C0.lk, C0.lm, blkL_len _ _⟩ ((But.refl w).setRow _)
    rw [setRow_heap _ _ _ _ _ _ C0.row, ← e]
/-- a chain of bytes lies in block g -/
def ChV (w : World) (g : Nat) (k xs : List Nat) : Prop := ∃ N q, xs.length = 16 * N + q ∧ q ≤ 16 ∧ (q = 0 → N = 0) ∧ Chain w g k (cbc k xs N) (blkL xs N) q
/-- while bytes are put behind -/
def TakeR (w : World) (g : Nat) (k T : List Nat) (v : Value) (wr : World) : Prop :=
  ∃ A m c xs rest, v = .slice A m c ∧ m ≤ c ∧ c ≤ 9223372036854775807 ∧ Nums .u8 wr wr.heap.size A m rest ∧ (0 < m → Off A g) ∧ ChV wr g k xs ∧ xs ++ nats rest = T ∧ (∀ y ∈ rest, Byte y) ∧ BY xs ∧ But g w wr
def TakeRet (w : World) (g : Nat) (k T : List Nat) (e : Ending) (w' : World) : Prop := e = .returned (.tuple #[]) ∧ ChV w' g k T ∧ But g w w'
theorem nats_split (ys : List Int) (p : Nat) : nats (ys.take p) ++ nats (ys.drop p) = nats ys := by rw [← nats_app, List.take_append_drop]
set_option maxRecDepth 100000 in
set_option maxHeartbeats 1000000 in
theorem take_any (g : Nat) (k xs : List Nat) (ys : List Int) (A : Option Addr) (n c : Nat) (w : World) (h : ChV w g k xs) (hb : Nums .u8 w w.heap.size A n ys) (hA : 0 < n → Off A g) (hc : n ≤ c) (hc2 : c ≤ 9223372036854775807)
    (yk : BY k) (hx : BY xs) (hy : ∀ y ∈ ys, Byte y) :
    Calls Try.prog 19 #[.pointer (some ⟨g, 0, none⟩), .slice A n c] w (TakeRet w g k (xs ++ nats ys)) := by
  obtain ⟨i0, hi0, hz0, hz1, hz2⟩ := info_parts byte_inf
  have T1 := Lib.hid hi0; have T3 := Lib.hid hz1
  have R0 : TakeR w g k (xs ++ nats ys) (.slice A n c) w := ⟨A, n, c, xs, ys, rfl, hc, hc2, hb, hA, h, rfl, hy, hx, But.refl _⟩
  obtain ⟨T, hT⟩ : ∃ T, T = xs ++ nats ys := ⟨_, rfl⟩
  rw [← hT] at R0 ⊢
  have YK := Lib.hid yk
  clear hT hx hy h hb hA hc hc2 hi0 hz0 hz1 hz2
  go_enter Try.func19, Try.ntmps19
  go_wp2_with fail
  go_loopw [1] (fun v wr => TakeR w g k T v wr) (fun v _ => lenOf v)
  case atStart => exact R0
  case round =>
    obtain ⟨A, m, c, xs', rest, rfl, hmc, hc2, NB, HO, SV, hT, hy, hx, BU⟩ := hrel
    by_cases hm : 0 < m
    · obtain ⟨b, o, rfl, hbb, hcell⟩ := NB.at_ hm
      obtain ⟨N, q, hlen, hq16, hq0, C0⟩ := SV
      have hm0 : (0 : Int) < (m : Int) := by omega
      have HNB := Lib.hid NB
      have HOO := Lib.hid (HO hm)
      have HTT := Lib.hid hT
      have HBU := Lib.hid BU
      have HL := Lib.hid hlen
      have HX := Lib.hid hx
      have HY := Lib.hid hy
      have HC := Lib.hid C0
      have HSZ := Lib.hid (show (Try.prog.info? 5).map (·.size) = some 1 by rw [T1.out]; exact congrArg some T3.out)
      have cn := C0.has
      clear hcell NB HO hT BU hlen hx hy C0
      by_cases hf : q = 16
      · have hfz : ((q : Int) = 16) := by omega
        have MX := Lib.hid (mix_any g k _ _ q wr HC.out YK.out (cbc_by YK.out HC.out.lk xs' N) (blkL_by HX.out N))
        have HL2 := Lib.hid (show xs'.length = 16 * (N + 1) + 0 by have := HL.out; omega)
        have HQ0 := Lib.hid hq0
        have HF := Lib.hid hf
        clear hq0 hf
        go_upto_region 3 with (first
          | (go_at_call 21; (with_reducible refine MX.out.mono ?_); rintro e w1 ⟨rfl, D1⟩))
        have C1 : Chain w1 g k (cbc k xs' (N + 1)) (blkL xs' (N + 1)) 0 := by
          rw [blkL_none (by have := HL2.out; omega)]; exact D1.ch
        have HD1 := Lib.hid D1.but
        have HC1 := Lib.hid C1
        have HNB1 := Lib.hid (D1.but.nums HNB.out fun _ => HOO.out)
        have cn1 := C1.has
        clear C1 D1 cn MX hfz
        obtain ⟨p, hp⟩ : ∃ p, min m (16 - 0) = p := ⟨_, rfl⟩
        have hp0 : 0 < p := by omega
        have hpm : p ≤ m := by omega
        have hpq : 0 + p ≤ 16 := by omega
        have HP := Lib.hid hp
        obtain ⟨q2, hq2⟩ : ∃ q2, q2 = 0 + p := ⟨_, rfl⟩
        have hqz : (0 : Int) + (p : Int) = (q2 : Int) := by omega
        have hq2b : (q2 : Int) ≤ 16 := by omega
        have HQ2 := Lib.hid hq2
        have sl := cut_rest g 0 (by omega)
        clear hp hq2
        go_still_tail 9, (by kernel_rfl)
        change wpList _ _ _ _ _ w1.drew
        clear sl cn1
        have HSD := Lib.hid (HC1.out.heap (w' := w1.drew) rfl)
        have HND := Lib.hid (HNB1.out.heap (w' := w1.drew) rfl)
        obtain ⟨A2, hA2⟩ : ∃ A2, A2 = (if c = p then some (⟨b, o, none⟩ : Addr) else some ((⟨b, o, none⟩ : Addr).add p)) := ⟨_, rfl⟩
        have sc := cut_from ⟨b, o, none⟩ m c p hpm hmc
        rw [← hA2] at sc
        have HA2 := Lib.hid hA2
        clear hA2
        go_upto_region 4 with (first
          | (refine wpList_copy_ch rfl (.tmp 22) (.tmp 23) rfl HSZ.out g (N + 1) 0 m c p 0 k _ xs' rest ⟨b, o, none⟩ rfl rfl HSD.out HND.out HY.out HL2.out (by omega) HP.out ?_
             intro w2 S2 B2))
        have cn := S2.has
        have fn := S2.frozen 48
        have HS2 := Lib.hid S2
        have HB2 := Lib.hid B2
        clear S2 B2
        go_upto_region 5 with fail
        have S4 := HS2.out.putHas q2
        have B4 : But g wr (w2.setCell ⟨g, 48, none⟩ (.int .i64 (q2 : Int))) := (HD1.out.trans (((But.refl w1).heap (w2 := w1.drew) rfl rfl rfl rfl).trans HB2.out)).setCell 48 _
        generalize w2.setCell ⟨g, 48, none⟩ (.int .i64 (q2 : Int)) = w4 at *
        have HS4 := Lib.hid S4
        have HB4 := Lib.hid B4
        clear cn fn S4 B4 hqz
        go_wp2_with fail
        clear sc
        go_roundw
        case rel =>
          have lt : (nats (rest.take p)).length = p := by rw [nats_len, List.length_take, HNB.out.len]; omega
          have B6 := HB4.out
          refine ⟨A2, m - p, c - p, xs' ++ nats (rest.take p), rest.drop p, rfl, by omega, by omega, ?_, fun _ => by rw [HA2.out]; exact off_cut HOO.out, ⟨N + 1, q2, ?_, by omega, by have := HQ2.out; omega, ?_⟩, ?_, fun y h => HY.out y (List.mem_of_mem_drop h), ?_, HBU.out.trans B6⟩
          · refine B6.nums ?_ (fun _ => by rw [HA2.out]; exact off_cut HOO.out)
            rw [HA2.out]; exact HNB.out.cut hpm hmc
          · rw [List.length_append, lt, HL2.out, HQ2.out]; omega
          · have e := cbc_app k xs' (nats (rest.take p)) (n := N + 1) (by have := HL2.out; omega)
            rw [e]; exact HS4.out
          · rw [List.append_assoc, nats_split]; exact HTT.out
          · intro z hz
            rcases List.mem_append.1 hz with h1 | h1
            · exact HX.out z h1
            · exact nats_by (fun y h => HY.out y (List.mem_of_mem_take h)) z h1
        case measure => simp [lenOf]; omega
      · have hfz : ¬ ((q : Int) = 16) := by omega
        have hqlt : q < 16 := by omega
        have HD1 : Hid (But g wr wr) := Lib.hid (But.refl _)
        have HQ0 := Lib.hid hq0
        clear hf hq0
        go_upto_region 3 with fail
        clear hfz cn
        have cn1 := HC.out.has
        have HNB1 := Lib.hid HNB.out
        obtain ⟨p, hp⟩ : ∃ p, min m (16 - q) = p := ⟨_, rfl⟩
        have hp0 : 0 < p := by omega
        have hpm : p ≤ m := by omega
        have hpq : q + p ≤ 16 := by omega
        have HP := Lib.hid hp
        obtain ⟨q2, hq2⟩ : ∃ q2, q2 = q + p := ⟨_, rfl⟩
        have hqz : (q : Int) + (p : Int) = (q2 : Int) := by omega
        have hq2b : (q2 : Int) ≤ 16 := by omega
        have HQ2 := Lib.hid hq2
        have sl := cut_rest g q (by omega)
        clear hp hq2
        go_still_tail 9, (by kernel_rfl)
        change wpList _ _ _ _ _ wr.drew
        clear sl cn1
        have HSD := Lib.hid (HC.out.heap (w' := wr.drew) rfl)
        have HND := Lib.hid (HNB1.out.heap (w' := wr.drew) rfl)
        obtain ⟨A2, hA2⟩ : ∃ A2, A2 = (if c = p then some (⟨b, o, none⟩ : Addr) else some ((⟨b, o, none⟩ : Addr).add p)) := ⟨_, rfl⟩
        have sc := cut_from ⟨b, o, none⟩ m c p hpm hmc
        rw [← hA2] at sc
        have HA2 := Lib.hid hA2
        clear hA2
        go_upto_region 4 with (first
          | (refine wpList_copy_ch rfl (.tmp 22) (.tmp 23) rfl HSZ.out g N q m c p q k _ xs' rest ⟨b, o, none⟩ rfl rfl HSD.out HND.out HY.out HL.out (by omega) HP.out ?_
             intro w2 S2 B2))
        have cn := S2.has
        have fn := S2.frozen 48
        have HS2 := Lib.hid S2
        have HB2 := Lib.hid B2
        clear S2 B2
        go_upto_region 5 with fail
        have S4 := HS2.out.putHas q2
        have B4 : But g wr (w2.setCell ⟨g, 48, none⟩ (.int .i64 (q2 : Int))) := (HD1.out.trans (((But.refl wr).heap (w2 := wr.drew) rfl rfl rfl rfl).trans HB2.out)).setCell 48 _
        generalize w2.setCell ⟨g, 48, none⟩ (.int .i64 (q2 : Int)) = w4 at *
        have HS4 := Lib.hid S4
        have HB4 := Lib.hid B4
        clear cn fn S4 B4 hqz
        go_wp2_with fail
        clear sc
        go_roundw
        case rel =>
          have lt : (nats (rest.take p)).length = p := by rw [nats_len, List.length_take, HNB.out.len]; omega
          have B6 := HB4.out
          refine ⟨A2, m - p, c - p, xs' ++ nats (rest.take p), rest.drop p, rfl, by omega, by omega, ?_, fun _ => by rw [HA2.out]; exact off_cut HOO.out, ⟨N, q2, ?_, by omega, by have := HQ2.out; omega, ?_⟩, ?_, fun y h => HY.out y (List.mem_of_mem_drop h), ?_, HBU.out.trans B6⟩
          · refine B6.nums ?_ (fun _ => by rw [HA2.out]; exact off_cut HOO.out)
            rw [HA2.out]; exact HNB.out.cut hpm hmc
          · rw [List.length_append, lt, HL.out, HQ2.out]; omega
          · have e := cbc_app k xs' (nats (rest.take p)) (n := N) (by have := HL.out; omega)
            rw [e]; exact HS4.out
          · rw [List.append_assoc, nats_split]; exact HTT.out
          · intro z hz
            rcases List.mem_append.1 hz with h1 | h1
            · exact HX.out z h1
            · exact nats_by (fun y h => HY.out y (List.mem_of_mem_take h)) z h1
        case measure => simp [lenOf]; omega
    · have e : m = 0 := by omega
      subst e
      have hr : rest = [] := NB.zero
      subst hr
      rw [show nats [] = [] from rfl, List.append_nil] at hT
      subst hT
      have HSV := Lib.hid SV
      have HBU := Lib.hid BU
      clear NB HO SV BU hm
      go_wp2_with fail
      exact bodyPost_end (results_none rfl _ _ _) rfl ⟨rfl, HSV.out, HBU.out⟩
end Go.Proofs.Ytknemkekmahdmaa.aesC
