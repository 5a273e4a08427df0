/-
  3 texts of a proof, joined.
-/
import Derived.Test.YthbgjjfhgbkbdaaMg8
import Derived.Laws.CopyOwn

/-
  The code's sha: bytes put behind.
-/
namespace Go.Proofs.Ythbgjjfhgbkbdaa.shaC
open Go.ChangeShapes Go.WideShapes Go.ChangeAt Go.RowKit
open Go.Proofs.Ythbgjjfhgbkbdaa.memC Go.Proofs.Ythbgjjfhgbkbdaa.genC Go.Proofs.Ythbgjjfhgbkbdaa.shaM Go.Proofs.Ythbgjjfhgbkbdaa.shaN Go.Proofs.Ythbgjjfhgbkbdaa.butC
set_option linter.unusedVariables false
/-- s.rest[q:] -/
theorem cut_rest (k q : Nat) (hq : q < 64) (w : World) :
    (Instr.sliceAt 69 (.pointer (some ⟨k, 5, none⟩)) (some (.int .u64 (q : Int))) none none).run Try.prog w = .ok (.slice (some ⟨k, 5 + q, none⟩) (64 - q) (64 - q)) w := by
  have h1 : (q : Int) ≤ 64 := by omega
  have h2 : (q : Int) < 64 := by omega
  have h3 : ¬ 64 = q := by omega
  have h4 : ¬ (64 : Int) = (q : Int) := by omega
  go_simp
/-- b[p:] -/
theorem cut_from (A : Addr) (m c p : Nat) (hp : p ≤ m) (hc : m ≤ c) (w : World) :
    (Instr.slice 22 (.slice (some A) m c) (some (.int .i64 (p : Int))) none none).run Try.prog w = .ok (.slice (if c = p then some A else some (A.add p)) (m - p) (c - p)) w := by
  have h1 : (p : Int) ≤ (m : Int) := by omega
  by_cases h : c = p
  · subst h
    have h2 : m = c := by omega
    subst h2
    go_simp
  · rw [if_neg h]
    go_simp
/-- a Sum of bytes lies in block k -/
def SumV (w : World) (k : Nat) (xs : List Int) : Prop := SumAt w k (gOf (hashH xs)) (restL xs) xs.length
theorem mixG_hash {h r : List Int} (hl : h.length = 5) (hw : ∀ x ∈ h, W32 x) : mixG (gOf h) r = gOf (blk h r) := by
  unfold mixG blk
  rw [gOf_back hl hw, gOf_step hl (steps_len hl _)]
/-- so many bytes go into the block -/
def fitS (q m : Nat) : Nat := min m (64 - q)
/-- the block behind a copy -/
def laidR (zs' rest : List Int) : List Int := tailR zs' ++ (rest.take (fitS (zs'.length % 64) rest.length) ++ zs (64 - zs'.length % 64 - fitS (zs'.length % 64) rest.length))
theorem laid_len (xs ys : List Int) : (laidR xs ys).length = 64 := by
  unfold laidR fitS zs; rw [List.length_append, List.length_append, List.length_replicate, List.length_take, tail_len]; omega
theorem laid_cells (g xs ys : List Int) (n : Nat) (hg : g.length = 5) (P : Nat) (hP : P = fitS (xs.length % 64) ys.length) :
    (sumC g (restL xs) n).take (5 + xs.length % 64) ++ ((ys.take P).map (Value.int .u8) ++ (sumC g (restL xs) n).drop (5 + xs.length % 64 + P)) = sumC g (laidR xs ys) n := by
  have hPl : P ≤ 64 - xs.length % 64 := by rw [hP]; unfold fitS; omega
  have e0 : sumC g (restL xs) n = (g.map (Value.int .u32) ++ (tailR xs).map (Value.int .u8)) ++ ((zs (64 - xs.length % 64)).map (Value.int .u8) ++ [.int .u64 (n : Int)]) := by
    unfold sumC restL; rw [List.map_append]; simp only [List.append_assoc]
  have l0 : (g.map (Value.int .u32) ++ (tailR xs).map (Value.int .u8)).length = 5 + xs.length % 64 := by rw [List.length_append, List.length_map, List.length_map, hg, tail_len]
  have e1 : (sumC g (restL xs) n).take (5 + xs.length % 64) = g.map (Value.int .u32) ++ (tailR xs).map (Value.int .u8) := by rw [e0]; exact List.take_left' l0
  have e2 : (sumC g (restL xs) n).drop (5 + xs.length % 64 + P) = (zs (64 - xs.length % 64 - P)).map (Value.int .u8) ++ [.int .u64 (n : Int)] := by
    rw [e0, ← List.drop_drop, List.drop_left' l0]
    have : zs (64 - xs.length % 64) = zs P ++ zs (64 - xs.length % 64 - P) := by rw [zs_add]; congr 1; omega
    rw [this, List.map_append, List.append_assoc]
    exact List.drop_left' (by simp [zs])
  rw [e1, e2]
  unfold laidR sumC
  rw [← hP, List.map_append, List.map_append]
  simp only [List.append_assoc]
theorem laid_stay {xs ys : List Int} (h : xs.length % 64 + ys.length < 64) : laidR xs ys = restL (xs ++ ys) ∧ fitS (xs.length % 64) ys.length = ys.length := by
  have e : fitS (xs.length % 64) ys.length = ys.length := by unfold fitS; omega
  refine ⟨?_, e⟩
  unfold laidR restL
  rw [e, List.take_of_length_le (Nat.le_refl _), (hash_stay h).2, List.append_assoc]
  congr 3
  rw [List.length_append]; omega
theorem laid_fill {xs ys : List Int} (h : 64 ≤ xs.length % 64 + ys.length) : laidR xs ys = tailR xs ++ ys.take (64 - xs.length % 64) ∧ fitS (xs.length % 64) ys.length = 64 - xs.length % 64 := by
  have e : fitS (xs.length % 64) ys.length = 64 - xs.length % 64 := by unfold fitS; omega
  refine ⟨?_, e⟩
  unfold laidR
  rw [e, Nat.sub_self]
  simp [zs]
theorem SumV.rest {w : World} {k : Nat} {xs ys : List Int} (h : SumV w k xs) : SumAt w k (gOf (hashH xs)) (restL xs) xs.length := h
/-- copy(s.rest[q:], b) -/
theorem wpList_copy_sum {ops : Array Oper} {tail : List Oper} {o : Oper} {a : Act} {w : World} {Q : Exit → Act → World → Prop} (hgd : o.guard = none) (d s : Operand)
    (ho : o.op = .call { callee := .builtin .copy, args := #[d, s], argTypes := #[22, 22] }) (hsz : (Try.prog.info? 5).map (·.size) = some 1)
    (k n q m c p : Nat) (g xs ys : List Int) (A : Addr) (hd : a.eval d = .slice (some ⟨k, 5 + q, none⟩) (64 - q) (64 - q)) (hs : a.eval s = .slice (some A) m c)
    (SA : SumAt w k g (restL xs) n) (NB : Nums .u8 w w.heap.size (some A) m ys) (hq : xs.length % 64 = q) (hp : fitS q m = p)
    (h : ∀ w', SumAt w' k g (laidR xs ys) n → But k w w' → wpList Try.prog ops Q tail (a.put o.dst (.int .i64 (p : Int))) w') : wpList Try.prog ops Q (o :: tail) a w := by
  subst hq
  have hpm : p ≤ m := by rw [← hp]; unfold fitS; omega
  have hl : ((ys.take p).map (Value.int .u8)).length = p := by rw [List.length_map, List.length_take, NB.len]; omega
  have hpq : p ≤ 64 - xs.length % 64 := by rw [← hp]; unfold fitS; omega
  refine Go.wpList_copy_own hgd d s _ _ ho _ Try.underlying22 hsz k (5 + xs.length % 64) (64 - xs.length % 64) (64 - xs.length % 64) A m c hd hs _ _ SA.row ((ys.take p).map (Value.int .u8)) (by rw [hl, ← hp]; rfl) ((NB.upto hpm).news rfl) ?_ ?_ ?_
  · rw [hl]; simp only [List.size_toArray, sumC_len SA.lg SA.lr]; omega
  · intro v hv
    obtain ⟨z, _, rfl⟩ := List.mem_map.1 hv
    rfl
  · rw [hl]
    have e := laid_cells g xs ys n SA.lg p (by rw [← hp, NB.len])
    refine h _ ⟨?_, SA.lg, laid_len _ _⟩ ((But.refl w).setRow _)
    rw [setRow_heap _ _ _ _ _ _ SA.row, ← e]
theorem off_cut {b o c p k : Nat} (h : Off (some ⟨b, o, none⟩) k) : Off (if c = p then some (⟨b, o, none⟩ : Addr) else some ((⟨b, o, none⟩ : Addr).add p)) k := by
  intro a ha
  have h1 : b ≠ k := h _ rfl
  split at ha <;> obtain rfl := Option.some.inj ha
  · exact h1
  · rw [memC.add_plain]; exact h1
theorem SumV.fill {w : World} {k N : Nat} {xs ys : List Int} (h : SumAt w k (mixG (gOf (hashH xs)) (tailR xs ++ ys)) (zs 64) N) (hl : xs.length % 64 + ys.length = 64) (hN : N = xs.length + ys.length) : SumV w k (xs ++ ys) := by
  have e := hash_fill hl
  have h0 : (xs ++ ys).length % 64 = 0 := by rw [List.length_append]; omega
  unfold SumV
  rw [e.1, rest_nil h0, List.length_append, ← hN, ← mixG_hash (hashH_ok xs).1 (hashH_ok xs).2]
  exact h
theorem SumV.stay {w : World} {k N : Nat} {xs ys : List Int} (h : SumAt w k (gOf (hashH xs)) (laidR xs ys) N) (hl : xs.length % 64 + ys.length < 64) (hN : N = xs.length + ys.length) : SumV w k (xs ++ ys) := by
  unfold SumV
  rw [(hash_stay hl).1, ← (laid_stay hl).1, List.length_append, ← hN]
  exact h
/-- while bytes are put behind -/
def TakeR (w : World) (k : Nat) (T : List Int) (v : Value) (wr : World) : Prop :=
  ∃ A m c zs rest, v = .slice A m c ∧ m ≤ c ∧ c ≤ 9223372036854775807 ∧ Nums .u8 wr wr.heap.size A m rest ∧ (0 < m → Off A k) ∧ SumV wr k zs ∧ zs ++ rest = T ∧ But k w wr
def TakeRet (w : World) (k : Nat) (T : List Int) (e : Ending) (w' : World) : Prop := e = .returned (.tuple #[]) ∧ SumV w' k T ∧ But k w w'
set_option maxRecDepth 100000 in
set_option maxHeartbeats 1000000 in
theorem take_any (k : Nat) (xs ys : List Int) (A : Option Addr) (n c : Nat) (w : World) (h : SumV w k xs) (hb : Nums .u8 w w.heap.size A n ys) (hA : 0 < n → Off A k) (hc : n ≤ c) (hc2 : c ≤ 9223372036854775807)
    (hx : ∀ x ∈ xs, Byte x) (hy : ∀ x ∈ ys, Byte x) (hn : xs.length + n ≤ 1000000000) :
    Calls Try.prog 51 #[.pointer (some ⟨k, 0, none⟩), .slice A n c] w (TakeRet w k (xs ++ ys)) := by
  obtain ⟨i0, hi0, hz0, hz1, hz2⟩ := info_parts byte_info
  have T1 := Lib.hid hi0; have T3 := Lib.hid hz1
  have lk := h.lt
  have R0 : TakeR w k (xs ++ ys) (.slice A n c) w := ⟨A, n, c, xs, ys, rfl, hc, hc2, hb, hA, h, rfl, But.refl _⟩
  obtain ⟨T, hT⟩ : ∃ T, T = xs ++ ys := ⟨_, rfl⟩
  rw [← hT] at R0 ⊢
  have HTB := Lib.hid (show ∀ x ∈ T, Byte x by rw [hT]; exact app_byte hx hy)
  have HTL := Lib.hid (show T.length ≤ 1000000000 by rw [hT, List.length_append, hb.len]; exact hn)
  clear hT hx hy hn h hb hA hc hc2 hi0 hz0 hz1 hz2
  go_enter Try.func51, Try.ntmps51
  go_wp2_with fail
  go_loopw [1] (fun v wr => TakeR w k T v wr) (fun v _ => lenOf v)
  case atStart => exact R0
  case round =>
    obtain ⟨A, m, c, zs', rest, rfl, hmc, hc2, NB, HO, SV, hT, BU⟩ := hrel
    by_cases hm : 0 < m
    · obtain ⟨b, o, rfl, hbb, hcell⟩ := NB.at_ hm
      obtain ⟨L, hL⟩ : ∃ L, L = zs'.length := ⟨_, rfl⟩
      obtain ⟨q, hq⟩ : ∃ q, zs'.length % 64 = q := ⟨_, rfl⟩
      obtain ⟨p, hp⟩ : ∃ p, fitS q m = p := ⟨_, rfl⟩
      have hq64 : q < 64 := by omega
      have hLt : (L : Int).tmod 64 = (q : Int) := by rw [Int.tmod_eq_emod_of_nonneg (by omega)]; omega
      have hp0 : 0 < p := by rw [← hp]; unfold fitS; omega
      have hpm : p ≤ m := by rw [← hp]; unfold fitS; omega
      have hp64 : p ≤ 64 := by rw [← hp]; unfold fitS; omega
      have hTl := HTL.out
      rw [← hT, List.length_append, NB.len, ← hL] at hTl
      have cn := SV.cn
      rw [← hL] at cn
      have sl := cut_rest k q hq64
      have HSV := Lib.hid SV
      have HNB := Lib.hid NB
      have HOO := Lib.hid (HO hm)
      have HTT := Lib.hid hT
      have HBU := Lib.hid BU
      have HQ := Lib.hid hq
      have HP := Lib.hid hp
      have HLL := Lib.hid hL
      have hm0 : (0 : Int) < (m : Int) := by omega
      clear hcell NB HO SV hT BU hq hp hL
      go_upto_region 1 with fail
      go_still_tail 10, (by kernel_rfl)
      change wpList _ _ _ _ _ wr.drew
      clear sl cn hLt
      have SD : SumAt wr.drew k (gOf (hashH zs')) (restL zs') L := by rw [HLL.out]; exact HSV.out.heap rfl
      have ND : Nums .u8 wr.drew wr.drew.heap.size (some ⟨b, o, none⟩) m rest := HNB.out.heap rfl
      have HSD := Lib.hid SD
      have HND := Lib.hid ND
      have HSZ := Lib.hid (show (Try.prog.info? 5).map (·.size) = some 1 by rw [T1.out]; exact congrArg some T3.out)
      obtain ⟨A2, hA2⟩ : ∃ A2, A2 = (if c = p then some (⟨b, o, none⟩ : Addr) else some ((⟨b, o, none⟩ : Addr).add p)) := ⟨_, rfl⟩
      have sc := cut_from ⟨b, o, none⟩ m c p hpm hmc
      rw [← hA2] at sc
      have HA2 := Lib.hid hA2
      clear SD ND hA2
      go_upto_region 3 with (first
        | (refine wpList_copy_sum rfl (.tmp 16) (.tmp 17) rfl HSZ.out k L q m c p _ zs' rest ⟨b, o, none⟩ rfl rfl HSD.out HND.out HQ.out HP.out ?_
           intro w2 S2 B2))
      clear sc
      have cn := S2.cn
      have fn := S2.frozen 69
      have HS2 := Lib.hid S2
      clear S2
      go_upto_region 4 with fail
      obtain ⟨N, hN⟩ : ∃ N, N = L + p := ⟨_, rfl⟩
      have hNz : (L : Int) + (p : Int) = (N : Int) := by omega
      rw [hNz]
      have S4 := HS2.out.setn N
      have B4 : But k wr (w2.setCell ⟨k, 69, none⟩ (.int .u64 (N : Int))) := (((But.refl wr).heap (w2 := wr.drew) rfl rfl rfl rfl).trans B2).setCell 69 _
      generalize w2.setCell ⟨k, 69, none⟩ (.int .u64 (N : Int)) = w4 at *
      have cn4 := S4.cn
      have HS4 := Lib.hid S4
      have HB4 := Lib.hid B4
      have HN := Lib.hid hN
      clear hNz cn fn B2 S4 B4 hN
      by_cases hfull : 64 ≤ q + m
      · have hp2 : p = 64 - q := by rw [← HP.out]; unfold fitS; omega
        have hN0 : (N : Int) % 64 = 0 := by have := HN.out; have := HQ.out; have := HLL.out; omega
        have hr : laidR zs' rest = tailR zs' ++ rest.take p := by
          rw [(laid_fill (xs := zs') (ys := rest) (by rw [HQ.out, HNB.out.len]; exact hfull)).1, HQ.out, hp2]
        have S5 := HS4.out
        rw [hr] at S5
        have yz : ∀ x ∈ zs', Byte x := fun x hx => HTB.out x (by rw [← HTT.out]; exact List.mem_append_left _ hx)
        have yr : ∀ x ∈ rest.take p, Byte x := fun x hx => HTB.out x (by rw [← HTT.out]; exact List.mem_append_right _ (List.mem_of_mem_take hx))
        have MX := Lib.hid (mix_any k N _ _ w4 S5 (app_byte (tail_byte yz) yr))
        clear hr S5 hp2 yz yr
        go_wp2_with (first
          | (go_at_call 52; (with_reducible refine MX.out.mono ?_); rintro e w5 ⟨rfl, S5, B5⟩
             have SV5 := Lib.hid (SumV.fill S5 (by rw [HQ.out, List.length_take, HNB.out.len]; have := HP.out; unfold fitS at this; omega) (by rw [← HLL.out, List.length_take, HNB.out.len, HN.out]; omega))))
        clear S5 hN0 cn4
        go_roundw
        case rel =>
          have B6 := HB4.out.trans B5
          refine ⟨A2, m - p, c - p, zs' ++ rest.take p, rest.drop p, rfl, by omega, by omega, ?_, fun _ => by rw [HA2.out]; exact off_cut HOO.out, SV5.out, by rw [List.append_assoc, List.take_append_drop]; exact HTT.out, HBU.out.trans B6⟩
          have hcut := HNB.out.cut hpm hmc
          refine B6.nums ?_ (fun _ => by rw [HA2.out]; exact off_cut HOO.out)
          rw [HA2.out]; exact hcut
        case measure => simp [lenOf]; omega
      · have hp2 : p = m := by rw [← HP.out]; unfold fitS; omega
        have hN0 : ¬ ((N : Int) % 64 = 0) := by have := HN.out; have := HQ.out; have := HLL.out; omega
        have SV5 := Lib.hid (SumV.stay HS4.out (by rw [HQ.out, HNB.out.len]; omega) (by rw [HN.out, ← HLL.out, HNB.out.len, hp2]))
        have HP2 := Lib.hid hp2
        clear hp2
        go_wp2_with fail
        clear hN0 cn4
        go_roundw
        case rel =>
          refine ⟨A2, m - p, c - p, zs' ++ rest, rest.drop p, rfl, by omega, by omega, ?_, fun _ => by rw [HA2.out]; exact off_cut HOO.out, SV5.out, ?_, HBU.out.trans HB4.out⟩
          · have hcut := HNB.out.cut hpm hmc
            refine HB4.out.nums ?_ (fun _ => by rw [HA2.out]; exact off_cut HOO.out)
            rw [HA2.out]; exact hcut
          · rw [List.drop_eq_nil_of_le (by rw [HNB.out.len, HP2.out]; exact Nat.le_refl _), List.append_nil]; exact HTT.out
        case measure => simp [lenOf]; omega
    · have e : m = 0 := by omega
      subst e
      have hr : rest = [] := NB.zero
      subst hr
      rw [List.append_nil] at hT
      subst hT
      have HSV := Lib.hid SV
      have HBU := Lib.hid BU
      clear NB HO SV BU hm
      go_wp2_with fail
      exact bodyPost_end (results_none rfl _ _ _) rfl ⟨rfl, HSV.out, HBU.out⟩
end Go.Proofs.Ythbgjjfhgbkbdaa.shaC

/-
  The code's sha: New and Add.
-/
namespace Go.Proofs.Ythbgjjfhgbkbdaa.shaC
open Go.ChangeShapes Go.WideShapes Go.ChangeAt Go.RowKit
open Go.Proofs.Ythbgjjfhgbkbdaa.memC Go.Proofs.Ythbgjjfhgbkbdaa.genC Go.Proofs.Ythbgjjfhgbkbdaa.shaM Go.Proofs.Ythbgjjfhgbkbdaa.shaN Go.Proofs.Ythbgjjfhgbkbdaa.butC
set_option linter.unusedVariables false
/-- the cells of a Sum of some bytes -/
def sumL (xs : List Int) : List Value := sumC (gOf (hashH xs)) (restL xs) xs.length
theorem sumL_len (xs : List Int) : (sumL xs).length = 70 := sumC_len (gOf_len (hashH_ok xs).1) (rest_len xs)
def zeroC : List Value := sumC [0, 0, 0, 0, 0] (List.replicate 64 0) 0
theorem sumL_nil : sumL [] = zeroC := by
  unfold sumL zeroC
  rw [rest_nil (xs := []) rfl]
  have e : gOf (hashH []) = [0, 0, 0, 0, 0] := gOf_init
  rw [e]; rfl
theorem zero70_info : (Try.prog.info? 73).map (·.zero) = some (some (.agg zeroC.toArray)) := by kernel_rfl
theorem zero70 (w : World) : (zeroValue 73).run Try.prog w = .ok (.agg zeroC.toArray) w := by
  obtain ⟨i, hi, hz⟩ := Option.map_eq_some_iff.1 zero70_info
  simp [zeroValue, typeInfo, hi, hz]
theorem sumC_one (g r : List Int) (n : Nat) : (sumC g r n).toArray.all (·.oneCell') = true := by
  rw [Array.all_eq_true_iff_forall_mem]
  intro v hv
  unfold sumC at hv
  simp at hv
  rcases hv with ⟨z, _, rfl⟩ | ⟨z, _, rfl⟩ | rfl <;> rfl
def SumRet (w : World) (xs : List Int) (e : Ending) (w' : World) : Prop := e = .returned (.agg (sumL xs).toArray) ∧ Below w.heap.size w w'
set_option maxRecDepth 100000 in
theorem new_any (w : World) : Calls Try.prog 50 #[] w (SumRet w []) := by
  obtain ⟨Z, hZ⟩ : ∃ Z, Z = zeroC.toArray := ⟨_, rfl⟩
  have hzv := zero70
  rw [← hZ] at hzv
  have U1 := Lib.hid (show (Try.prog.info? 73).map (·.size) = some Z.size by rw [sum_info, hZ]; rfl)
  have HO := Lib.hid (show Z.all (·.oneCell') = true by rw [hZ]; exact sumC_one [0, 0, 0, 0, 0] (List.replicate 64 0) 0)
  have HZ := Lib.hid hZ
  clear hZ
  go_enter Try.func50, Try.ntmps50
  go_wp2_with (first
    | (refine wpList_store_row rfl 73 (.tmp 0) (.tmp 1) rfl w.heap.size Z rfl rfl _ _ (heap_alloc_new _ _) U1.out rfl HO.out ?_))
  refine bodyPost_ret (v := .agg Z) (results_cell_row Try.results50 _ _ w.heap.size _ _ _ _ (by rfl) (setRow_heap _ _ _ _ _ _ (heap_alloc_new _ _)) Try.underlying73 rfl U1.out) rfl ⟨by rw [sumL_nil, HZ.out], ?_⟩
  rw [World.setRow_alloc_new]
  exact alloc_below _ _
set_option maxRecDepth 100000 in
theorem add_any (xs ys : List Int) (A : Option Addr) (n c : Nat) (w : World) (hb : Nums .u8 w w.heap.size A n ys) (hc : n ≤ c) (hc2 : c ≤ 9223372036854775807)
    (hx : ∀ x ∈ xs, Byte x) (hy : ∀ x ∈ ys, Byte x) (hn : xs.length + n ≤ 1000000000) :
    Calls Try.prog 37 #[.agg (sumL xs).toArray, .slice A n c] w (SumRet w (xs ++ ys)) := by
  obtain ⟨Z, hZ⟩ : ∃ Z, Z = zeroC.toArray := ⟨_, rfl⟩
  have hzv := zero70
  rw [← hZ] at hzv
  obtain ⟨S, hS⟩ : ∃ S, S = (sumL xs).toArray := ⟨_, rfl⟩
  rw [← hS]
  have hs70 : S.size = 70 := by rw [hS]; simp [sumL_len]
  have e1 : (w.alloc (.cells S 73)).heap.size = w.heap.size + 1 := alloc_size _ _
  have B2 : Below w.heap.size w ((w.alloc (.cells S 73)).alloc (.cells Z 73)) := ((Below.refl _ _).alloc (Nat.le_refl _) _).alloc (by simp) _
  have S2 : SumV ((w.alloc (.cells S 73)).alloc (.cells Z 73)) w.heap.size xs := by
    rw [hS]; exact (SumAt.new w (gOf_len (hashH_ok xs).1) (rest_len xs)).alloc _
  have R2 : ((w.alloc (.cells S 73)).alloc (.cells Z 73)).heap[w.heap.size + 1]? = some (.cells Z 73 (0, 0)) := by
    rw [← e1]; exact heap_alloc_new _ _
  have N2 := (hb.below B2).more B2.size
  have HT := Lib.hid (take_any w.heap.size xs ys A n c _ S2 N2 (off_below hb (Nat.le_refl _)) hc hc2 hx hy hn)
  have U1 := Lib.hid (show (Try.prog.info? 73).map (·.size) = some ((sumL (xs ++ ys)).toArray).size by rw [sum_info]; simp [sumL_len])
  have ZS := Lib.hid (show Z.size = ((sumL (xs ++ ys)).toArray).size by rw [hZ]; simp [sumL_len]; rfl)
  have HO := Lib.hid (sumC_one (gOf (hashH (xs ++ ys))) (restL (xs ++ ys)) (xs ++ ys).length)
  have HR2 := Lib.hid R2
  have HB2 := Lib.hid B2
  have ne := Lib.hid (show w.heap.size + 1 < ((w.alloc (.cells S 73)).alloc (.cells Z 73)).heap.size by rw [alloc_size, e1]; omega)
  clear hZ hS e1 S2 N2 R2 B2 hb hx hy
  go_enter Try.func37, Try.ntmps37
  go_upto_region 2 with (first
    | (go_at_call 51; (with_reducible refine HT.out.mono ?_); rintro e w2 ⟨rfl, S3, B3⟩))
  have G1 := Lib.hid S3.row
  have G2 := Lib.hid ((B3.block (w.heap.size + 1) ne.out (by omega)).trans HR2.out)
  have BF := Lib.hid (HB2.out.trans (B3.to_below (B := w.heap.size) (Nat.le_refl _) HB2.out.size))
  clear S3 B3
  go_wp2_with (first
    | (refine wpList_load_row rfl 73 (.tmp 2) rfl w.heap.size rfl _ _ _ _ G1.out Try.underlying73 rfl U1.out ?_)
    | (refine wpList_store_row rfl 73 (.tmp 4) (.tmp 7) rfl (w.heap.size + 1) _ rfl rfl _ _ G2.out U1.out ZS.out HO.out ?_))
  refine bodyPost_ret (v := .agg (sumL (xs ++ ys)).toArray) (results_cell_row Try.results37 _ _ (w.heap.size + 1) _ _ _ _ (by rfl) (setRow_heap _ _ _ _ _ _ G2.out) Try.underlying73 rfl U1.out) rfl ⟨rfl, ?_⟩
  exact BF.out.trans ⟨rfl, rfl, rfl, by simp, fun z hz => setRow_other _ _ _ _ (by omega)⟩
end Go.Proofs.Ythbgjjfhgbkbdaa.shaC

/-
  The code's sha: Digest.
-/
namespace Go.Proofs.Ythbgjjfhgbkbdaa.shaC
open Go.ChangeShapes Go.WideShapes Go.ChangeAt Go.RowKit
open Go.Proofs.Ythbgjjfhgbkbdaa.memC Go.Proofs.Ythbgjjfhgbkbdaa.genC Go.Proofs.Ythbgjjfhgbkbdaa.shaM Go.Proofs.Ythbgjjfhgbkbdaa.shaN Go.Proofs.Ythbgjjfhgbkbdaa.butC
set_option linter.unusedVariables false
/-- the block behind i bytes of the length -/
def lenR (xs : List Int) (i : Nat) : List Int := tailR (fullL xs) ++ (zs (8 - i) ++ (lenB ((xs.length : Int) * 8)).drop (8 - i))
theorem lenB_len (x : Int) : (lenB x).length = 8 := rfl
theorem lenR_zero (xs : List Int) : lenR xs 0 = tailR (fullL xs) ++ zs 8 := by
  unfold lenR; rw [List.drop_eq_nil_of_le (by rw [lenB_len]; decide), List.append_nil]
theorem lenR_full (xs : List Int) : lenR xs 8 = tailR (fullL xs) ++ lenB ((xs.length : Int) * 8) := by
  unfold lenR; simp [zs]
theorem lenR_len (xs : List Int) (i : Nat) (hi : i ≤ 8) : (lenR xs i).length = 64 := by
  unfold lenR zs
  rw [List.length_append, List.length_append, tail_len, full_len, List.length_replicate, List.length_drop, lenB_len]; omega
theorem lenR_set (xs : List Int) (i : Nat) (hi : i < 8) : (lenR xs i).set (63 - i) ((xs.length : Int) * 8 / 2 ^ (8 * i) % 256) = lenR xs (i + 1) := by
  unfold lenR
  have h56 : (tailR (fullL xs)).length = 56 := by rw [tail_len, full_len]
  rw [List.set_append_right _ _ (by rw [h56]; omega), h56]
  congr 1
  generalize (xs.length : Int) * 8 = x
  rcases (show i = 0 ∨ i = 1 ∨ i = 2 ∨ i = 3 ∨ i = 4 ∨ i = 5 ∨ i = 6 ∨ i = 7 by omega) with rfl | rfl | rfl | rfl | rfl | rfl | rfl | rfl <;> simp [zs, lenB]
theorem lenR_byte {xs : List Int} (h : ∀ x ∈ xs, Byte x) : ∀ x ∈ lenR xs 8, Byte x := by
  rw [lenR_full]
  refine app_byte (tail_byte (app_byte h ?_)) ?_
  · intro x hx
    rcases List.mem_cons.1 hx with rfl | hx
    · unfold Byte; omega
    · exact zs_byte _ x hx
  · intro y hy
    have := pad_byte (bs := xs) h y (by unfold padL; exact List.mem_append_right _ hy)
    exact this
/-- what lies in memory while a digest is reckoned -/
structure DR (w : World) (g r : List Int) (n : Nat) (wr : World) : Prop where
  sum : SumAt wr w.heap.size g r n
  out : Arr .u8 54 wr (w.heap.size + 1) (List.replicate 20 0)
  bel : Below w.heap.size w wr
theorem DR.but {w wr w' : World} {g r g' r' : List Int} {n n' : Nat} (D : DR w g r n wr) (S : SumAt w' w.heap.size g' r' n') (B : But w.heap.size wr w') : DR w g' r' n' w' :=
  ⟨S, B.arr D.out (by omega), D.bel.trans (B.to_below (Nat.le_refl _) D.bel.size)⟩
theorem DR.below {w wr w' : World} {g r : List Int} {n : Nat} (D : DR w g r n wr) (B : Below wr.heap.size wr w') : DR w g r n w' :=
  ⟨D.sum.below B D.sum.lt, D.out.below B D.out.lt, D.bel.trans (B.mono D.bel.size)⟩
theorem DR.r {w wr : World} {g r : List Int} {n : Nat} (D : DR w g r n wr) {j : Nat} (hj : j < 64) (x : Int) : DR w g (r.set j x) n (wr.setCell ⟨w.heap.size, 5 + j, none⟩ (.int .u8 x)) :=
  D.but (D.sum.setr hj x) ((But.refl _).setCell _ _)
/-- what lies in memory while a digest is written -/
structure OR (w : World) (O : Nat) (o : List Int) (wr : World) : Prop where
  out : Arr .u8 54 wr (w.heap.size + 1) (List.replicate 20 0)
  arr : Arr .u8 54 wr O o
  bel : Below w.heap.size w wr
  lt : w.heap.size + 1 < O
theorem OR.below {w wr w' : World} {O : Nat} {o : List Int} (D : OR w O o wr) (B : Below wr.heap.size wr w') : OR w O o w' :=
  ⟨D.out.below B D.out.lt, D.arr.below B D.arr.lt, D.bel.trans (B.mono D.bel.size), D.lt⟩
theorem OR.s {w wr : World} {O : Nat} {o : List Int} (D : OR w O o wr) (j : Nat) (x : Int) : OR w O (o.set j x) (wr.setCell ⟨O, j, none⟩ (.int .u8 x)) := by
  have := D.lt
  exact ⟨D.out.other (by show O ≠ w.heap.size + 1; omega) _, D.arr.stored j x, D.bel.setCell (p := ⟨O, j, none⟩) (by show w.heap.size ≤ O; omega) _, D.lt⟩
set_option maxRecDepth 100000 in
set_option maxHeartbeats 1000000 in
theorem digest_any (xs : List Int) (w : World) (hx : ∀ x ∈ xs, Byte x) (hn : xs.length ≤ 100000000) :
    Calls Try.prog 38 #[.agg (sumL xs).toArray] w (ShaRet w xs) := by
  obtain ⟨S, hS⟩ : ∃ S, S = (sumL xs).toArray := ⟨_, rfl⟩
  rw [← hS]
  have hs70 : S.size = 70 := by rw [hS]; simp [sumL_len]
  have e1 : (w.alloc (.cells S 73)).heap.size = w.heap.size + 1 := alloc_size _ _
  have D1 : DR w (gOf (hashH xs)) (restL xs) xs.length ((w.alloc (.cells S 73)).alloc (.cells ((List.replicate 20 (0 : Int)).map (Value.int .u8)).toArray 54)) := by
    refine ⟨?_, ?_, ((Below.refl _ _).alloc (Nat.le_refl _) _).alloc (by simp) _⟩
    · rw [hS]; exact (SumAt.new w (gOf_len (hashH_ok xs).1) (rest_len xs)).alloc _
    · have := Arr.new (w.alloc (.cells S 73)) .u8 54 (List.replicate 20 0)
      rw [e1] at this; exact this
  have z1 : ((w.alloc (.cells S 73)).alloc (.cells ((List.replicate 20 (0 : Int)).map (Value.int .u8)).toArray 54)).heap.size = w.heap.size + 1 + 1 := by rw [alloc_size, e1]
  have HD1 := Lib.hid D1
  have HZ1 := Lib.hid z1
  have HX := Lib.hid hx
  have HN := Lib.hid hn
  obtain ⟨L, hL⟩ : ∃ L, L = xs.length := ⟨_, rfl⟩
  have HL := Lib.hid hL
  have hL2 : L ≤ 100000000 := by omega
  clear e1 D1 z1 hS hx hn hL
  go_enter Try.func38, Try.ntmps38
  go_upto_region 1 with fail
  change Code.wp _ _ _ _ ((w.alloc (.cells S 73)).alloc (.cells ((List.replicate 20 (0 : Int)).map (Value.int .u8)).toArray 54))
  generalize ((w.alloc (.cells S 73)).alloc (.cells ((List.replicate 20 (0 : Int)).map (Value.int .u8)).toArray 54)) = w1 at *
  clear hs70
  have cn := HD1.out.sum.cn
  rw [← HL.out] at cn
  go_upto_region 2 with fail
  clear cn
  have NL : Nums .u8 (w1.alloc (.cells #[.int .u8 128] 5)) (w1.alloc (.cells #[.int .u8 128] 5)).heap.size (some ⟨w1.heap.size, 0, none⟩) 1 [128] := by
    have := (Arr.new w1 .u8 5 [128]).part (n := 1) rfl
    exact this
  have HT := Lib.hid (take_any w.heap.size xs [128] (some ⟨w1.heap.size, 0, none⟩) 1 1 (w1.alloc (.cells #[.int .u8 128] 5)) (HD1.out.sum.alloc _) NL (fun _ a ha => by obtain rfl := Option.some.inj ha; show w1.heap.size ≠ w.heap.size; rw [HZ1.out]; omega) (Nat.le_refl _) (by decide) HX.out (by unfold Byte; simp) (by have := HN.out; omega))
  clear NL
  go_upto_region 3 with (first
    | (go_at_call 51; (with_reducible refine HT.out.mono ?_); rintro e w2 ⟨rfl, S2, B2⟩))
  have D2 : DR w (gOf (hashH (xs ++ [128]))) (restL (xs ++ [128])) (L + 1) w2 := by
    have := (HD1.out.below (alloc_below w1 (.cells #[.int .u8 128] 5))).but S2 B2
    rw [List.length_append, ← HL.out] at this; exact this
  clear S2 B2
  have HD2 := Lib.hid D2
  have cn := D2.sum.cn
  obtain ⟨M, hM⟩ : ∃ M, M = L + 1 := ⟨_, rfl⟩
  rw [← hM] at cn
  have HM := Lib.hid hM
  clear D2 hM
  obtain ⟨X, hX⟩ : ∃ X, X = 8 * (L : Int) := ⟨_, rfl⟩
  have X0 : 0 ≤ X := by omega
  have X1 : X ≤ 800000000 := by omega
  have HXX := Lib.hid hX
  rw [← hX]
  clear hX
  have hML : (xs ++ [128]).length % 64 = M % 64 := by rw [List.length_append, HM.out, HL.out]; rfl
  have hM1 : (xs.length + 1) % 64 = M % 64 := by rw [HM.out, HL.out]
  have yx : ∀ y ∈ xs ++ [128], Byte y := app_byte HX.out (by unfold Byte; simp)
  have MX := Lib.hid (mix_any w.heap.size M _ _ w2 (by rw [HM.out]; exact HD2.out.sum) (rest_byte yx))
  have HH := hashH_ok (xs ++ [128])
  have HML := Lib.hid hML
  have HM1 := Lib.hid hM1
  clear hML hM1 yx HT
  rcases Nat.lt_or_ge 56 (M % 64) with hc | hc
  all_goals
    first
    | (have hz : (56 : Int) < (M : Int) % 64 := by omega
       have FF := full_far (xs := xs) (by rw [HM1.out]; exact hc)
       go_upto_region 5 with (first
         | (go_at_call 52; (with_reducible refine MX.out.mono ?_); rintro e w3 ⟨rfl, S3, B3⟩))
       have D3 : DR w (gOf (hashH (fullL xs))) (lenR xs 0) M w3 := by
         rw [mixG_hash HH.1 HH.2, ← FF.1] at S3
         rw [lenR_zero, FF.2]
         exact HD2.out.but S3 B3
       have HD3 := Lib.hid D3
       clear D3 S3 B3 hz FF cn)
    | (have hz : ¬ ((56 : Int) < (M : Int) % 64) := by omega
       have FF := full_near (xs := xs) (by rw [HM1.out]; exact hc)
       go_upto_region 5 with fail
       have D3 : DR w (gOf (hashH (fullL xs))) (lenR xs 0) M w2 := by
         rw [lenR_zero, FF.1, FF.2, HM.out]
         exact HD2.out
       have HD3 := Lib.hid D3
       clear D3 hz FF cn)
    clear MX HH hc
    go_wp2_with fail
    go_loopw [19] (fun i wr => ∃ k : Nat, k ≤ 8 ∧ i = .int .i64 k ∧ DR w (gOf (hashH (fullL xs))) (lenR xs k) M wr) (fun i _ => 8 - (intOf i).toNat)
    case atStart => exact ⟨0, by omega, rfl, HD3.out⟩
    case round =>
      obtain ⟨k, hk, rfl, DD⟩ := hrel
      have HDD := Lib.hid DD
      by_cases hlt : k < 8
      · obtain ⟨u, hu⟩ : ∃ u, u = 63 - k := ⟨_, rfl⟩
        obtain ⟨s, hs⟩ : ∃ s, s = 8 * k := ⟨_, rfl⟩
        have huz : (63 : Int) - (k : Int) = (u : Int) := by omega
        have hsz : (8 : Int) * (k : Int) = (s : Int) := by omega
        have hu64 : u < 64 := by omega
        have hu64z : (u : Int) < 64 := by omega
        have hs56 : s ≤ 56 := by omega
        have hs56z : (s : Int) ≤ 56 := by omega
        have hkz : (k : Int) < 8 := by omega
        have cu := DD.sum.cr (j := u) hu64
        have fu := DD.sum.frozen (5 + u)
        have hst := lenR_set xs k hlt
        have hXL : (xs.length : Int) * 8 = X := by rw [HXX.out, HL.out]; omega
        rw [hXL, ← hu, ← hs] at hst
        have HS := Lib.hid hst
        clear hst hXL hu hs DD
        go_wp2_with fail
        go_roundw
        case rel =>
          refine ⟨k + 1, by omega, by go_num, ?_⟩
          rw [← HS.out]
          exact HDD.out.r hu64 _
        case measure => simp [intOf]; omega
      · have e : k = 8 := by omega
        subst e
        have MX2 := Lib.hid (mix_any w.heap.size M _ _ wr DD.sum (lenR_byte HX.out))
        clear hlt hk DD
        go_upto_region 11 with (first
          | (go_at_call 52; (with_reducible refine MX2.out.mono ?_); rintro e w5 ⟨rfl, S5, B5⟩))
        have D5 : DR w (gOf (hashH (padL xs))) (zs 64) M w5 := by
          have h0 := hashH_ok (fullL xs)
          rw [mixG_hash h0.1 h0.2, lenR_full, ← pad_hash] at S5
          exact HDD.out.but S5 B5
        clear S5 B5 HDD
        go_upto_region 12 with fail
        have O6 := OR.mk (w := w) (O := w5.heap.size) (o := outL (hashH (padL xs)) 0) (wr := w5.alloc (.cells ((List.replicate 20 (0 : Int)).map (Value.int .u8)).toArray 54)) (D5.out.alloc _) (Arr.new w5 .u8 54 (List.replicate 20 0)) (D5.bel.alloc D5.bel.size _) D5.out.lt
        have S6 := D5.sum.alloc (.cells ((List.replicate 20 (0 : Int)).map (Value.int .u8)).toArray 54)
        change Code.wp _ _ _ _ (w5.alloc (.cells ((List.replicate 20 (0 : Int)).map (Value.int .u8)).toArray 54))
        generalize w5.alloc (.cells ((List.replicate 20 (0 : Int)).map (Value.int .u8)).toArray 54) = w6 at *
        generalize w5.heap.size = O at *
        obtain ⟨d0, d1, d2, d3, d4, hd⟩ := list5 (hashH_ok (padL xs)).1
        have hdw := (hashH_ok (padL xs)).2
        have F6 := Lib.hid ((five_any _ _ _ _ _ S6).mono fun e w' h => (show e = .returned (.agg #[.int .u32 d0, .int .u32 d1, .int .u32 d2, .int .u32 d3, .int .u32 d4]) ∧ Below w6.heap.size w6 w' from ⟨by rw [h.1, gOf_back (hashH_ok _).1 (hashH_ok _).2, hd]; rfl, h.2⟩))
        have HO6 := Lib.hid O6
        have HDW := Lib.hid hdw
        have HDD := Lib.hid hd
        clear D5 S6 O6 hd hdw
        go_upto_region 13 with (first
          | (go_at_call 53; (with_reducible refine F6.out.mono ?_); rintro e w7 ⟨rfl, B7⟩))
        have O7 := Lib.hid (HO6.out.below B7)
        clear B7
        go_wp2_with fail
        go_loopw [34] (fun i wx => ∃ a : Nat, a ≤ 5 ∧ i = .int .i64 a ∧ OR w O (outL (hashH (padL xs)) (4 * a)) wx) (fun i _ => 5 - (intOf i).toNat)
        case atStart => exact ⟨0, by omega, rfl, O7.out⟩
        case round =>
          obtain ⟨a, ha, rfl, QQ⟩ := hrel
          have HQ := Lib.hid QQ
          clear QQ
          by_cases hlt : a < 5
          · have hv : (#[.int .u32 d0, .int .u32 d1, .int .u32 d2, .int .u32 d3, .int .u32 d4] : Array Value)[a]? = some (.int .u32 ((hashH (padL xs)).getD a 0)) := by
              rw [HDD.out]
              rcases (show a = 0 ∨ a = 1 ∨ a = 2 ∨ a = 3 ∨ a = 4 by omega) with rfl | rfl | rfl | rfl | rfl <;> rfl
            obtain ⟨i1, hi1, hs1⟩ := u_info
            have ix : (Instr.index 71 (.agg #[.int .u32 d0, .int .u32 d1, .int .u32 d2, .int .u32 d3, .int .u32 d4]) (.int .i64 (a : Int))).run Try.prog wr = .ok (.int .u32 ((hashH (padL xs)).getD a 0)) wr :=
              Go.Proofs.Ythbgjjfhgbkbdaa.idxC.run_idx wr _ _ 5 .u32 i1 _ a _ Try.underlying71 rfl hi1 hs1 hlt hv
            have haz : (a : Int) < 5 := by omega
            obtain ⟨y, hyy⟩ : ∃ y, y = (hashH (padL xs)).getD a 0 := ⟨_, rfl⟩
            have yw : W32 y := by
              rw [hyy, List.getD_eq_getElem?_getD, List.getElem?_eq_getElem (by rw [(hashH_ok (padL xs)).1]; exact hlt)]
              exact HDW.out _ (List.getElem_mem _)
            rw [← hyy] at ix
            obtain ⟨y0, y1⟩ := yw
            have HYY := Lib.hid hyy
            obtain ⟨p, hp⟩ : ∃ p, p = 4 * a := ⟨_, rfl⟩
            have hpz : (4 : Int) * (a : Int) = (p : Int) := by omega
            have HPP := Lib.hid hp
            rw [← hp] at HQ
            clear hv hi1 hs1 hyy hp
            go_wp2_with fail
            go_loopw [38] (fun i wx => ∃ b : Nat, b ≤ 4 ∧ i = .int .i64 b ∧ OR w O (outL (hashH (padL xs)) (p + b)) wx) (fun i _ => 4 - (intOf i).toNat)
            case atStart => exact ⟨0, by omega, rfl, HQ.out⟩
            case round =>
              obtain ⟨b, hb, rfl, QQ⟩ := hrel
              by_cases hlb : b < 4
              · obtain ⟨q, hq⟩ : ∃ q, q = p + b := ⟨_, rfl⟩
                obtain ⟨s, hs⟩ : ∃ s, s = 24 - 8 * b := ⟨_, rfl⟩
                have hqz : (p : Int) + (b : Int) = (q : Int) := by omega
                have hsz : (24 : Int) - 8 * (b : Int) = (s : Int) := by omega
                have hq20 : q < 20 := by have := HPP.out; omega
                have hq20z : (q : Int) < 20 := by omega
                have hbz : (b : Int) < 4 := by omega
                have hpz2 : (p : Int) ≤ 16 := by omega
                have hs24 : (s : Int) ≤ 24 := by omega
                have HYv : outB (hashH (padL xs)) q = y / 2 ^ s % 256 := by
                  have e1 : q / 4 = a := by have := HPP.out; omega
                  have e2 : q % 4 = b := by have := HPP.out; omega
                  unfold outB; rw [e1, e2, HYY.out, hs]
                have hst := out_set (hashH (padL xs)) q hq20
                rw [HYv] at hst
                rw [← hq] at QQ
                have co := QQ.arr.cell (j := q) (by rw [out_len _ q (by omega)]; exact hq20)
                have fo := QQ.arr.frozen q
                have HQ2 := Lib.hid QQ
                have HS := Lib.hid hst
                have HQQ := Lib.hid hq
                clear HYv hst QQ hq hs
                go_wp2_with fail
                go_roundw
                case rel =>
                  refine ⟨b + 1, by omega, by go_num, ?_⟩
                  rw [← Nat.add_assoc, ← HQQ.out, ← HS.out]
                  exact HQ2.out.s q _
                case measure => simp [intOf]; omega
              · have e : b = 4 := by omega
                subst e
                have HQ2 := Lib.hid QQ
                clear QQ hlb hb
                go_wp2_with fail
                go_roundw
                case rel =>
                  refine ⟨a + 1, by omega, by go_num, ?_⟩
                  have e4 : 4 * (a + 1) = p + 4 := by have := HPP.out; omega
                  rw [e4]; exact HQ2.out
                case measure => simp [intOf]; omega
          · have e : a = 5 := by omega
            subst e
            have hF : outL (hashH (padL xs)) (4 * 5) = shaL xs := by unfold outL; rw [sha_hash]; simp
            have QQ := HQ.out
            rw [hF] at QQ
            have hlS : (shaL xs).length = 20 := by unfold shaL; simp
            have G1 := Lib.hid QQ.arr.row
            have G2 := Lib.hid QQ.out.row
            have HF := Lib.hid hlS
            have BQ := Lib.hid QQ.bel
            have U1 := Lib.hid (show (Try.prog.info? 54).map (·.size) = some (((shaL xs).map (Value.int .u8)).toArray).size by rw [digest_info]; simp [hlS])
            clear hF hlt ha hlS QQ HQ
            go_wp2_with (first
              | (refine wpList_load_row rfl 54 (.tmp 5) rfl O rfl _ _ _ _ G1.out Try.underlying54 rfl U1.out ?_)
              | (refine wpList_store_row rfl 54 (.tmp 2) (.tmp 54) rfl (w.heap.size + 1) _ rfl rfl _ _ G2.out U1.out (by simp [HF.out]) (nums_one _) ?_))
            refine bodyPost_ret (v := .agg ((shaL xs).map (Value.int .u8)).toArray) (results_cell_row Try.results38 _ _ (w.heap.size + 1) _ _ _ _ (by rfl) (setRow_heap _ _ _ _ _ _ G2.out) Try.underlying54 rfl U1.out) rfl ⟨rfl, ?_⟩
            exact BQ.out.trans ⟨rfl, rfl, rfl, by simp, fun z hz => setRow_other _ _ _ _ (by omega)⟩
end Go.Proofs.Ythbgjjfhgbkbdaa.shaC
