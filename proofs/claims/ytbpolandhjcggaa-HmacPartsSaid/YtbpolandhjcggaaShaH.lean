/-
  The code's sha: bytes put behind.
-/
import Derived.Test.YtbpolandhjcggaaShaG
import Derived.Laws.CopyOwn
namespace Go.Proofs.Ytbpolandhjcggaa.shaC
open Go.ChangeShapes Go.WideShapes Go.ChangeAt Go.RowKit
open Go.Proofs.Ytbpolandhjcggaa.memC Go.Proofs.Ytbpolandhjcggaa.genC Go.Proofs.Ytbpolandhjcggaa.shaM Go.Proofs.Ytbpolandhjcggaa.shaN Go.Proofs.Ytbpolandhjcggaa.butC
set_option linter.unusedVariables false
/-- s.rest[q:] -/
theorem cut_rest (k q : Nat) (hq : q < 64) (w : World) :
    (Instr.sliceAt 31 (.pointer (some ⟨k, 5, none⟩)) (some (.int .u64 (q : Int))) none none).run Try.prog w = .ok (.slice (some ⟨k, 5 + q, none⟩) (64 - q) (64 - q)) w := by
  have h1 : (q : Int) ≤ 64 := by omega
  have h2 : (q : Int) < 64 := by omega
  have h3 : ¬ 64 = q := by omega
  have h4 : ¬ (64 : Int) = (q : Int) := by omega
  go_simp
/-- b[p:] -/
theorem cut_from (A : Addr) (m c p : Nat) (hp : p ≤ m) (hc : m ≤ c) (w : World) :
    (Instr.slice 22 (.slice (some A) m c) (some (.int .i64 (p : Int))) none none).run Try.prog w = .ok (.slice (if c = p then some A else some (A.add p)) (m - p) (c - p)) w := by
  have h1 : (p : Int) ≤ (m : Int) := by omega
  by_cases h : c = p
  · subst h
    have h2 : m = c := by omega
    subst h2
    go_simp
  · rw [if_neg h]
    go_simp
/-- a Sum of bytes lies in block k -/
def SumV (w : World) (k : Nat) (xs : List Int) : Prop := SumAt w k (gOf (hashH xs)) (restL xs) xs.length
theorem mixG_hash {h r : List Int} (hl : h.length = 5) (hw : ∀ x ∈ h, W32 x) : mixG (gOf h) r = gOf (blk h r) := by
  unfold mixG blk
  rw [gOf_back hl hw, gOf_step hl (steps_len hl _)]
/-- so many bytes go into the block -/
def fitS (q m : Nat) : Nat := min m (64 - q)
/-- the block behind a copy -/
def laidR (zs' rest : List Int) : List Int := tailR zs' ++ (rest.take (fitS (zs'.length % 64) rest.length) ++ zs (64 - zs'.length % 64 - fitS (zs'.length % 64) rest.length))
theorem laid_len (xs ys : List Int) : (laidR xs ys).length = 64 := by
  unfold laidR fitS zs; rw [List.length_append, List.length_append, List.length_replicate, List.length_take, tail_len]; omega
theorem laid_cells (g xs ys : List Int) (n : Nat) (hg : g.length = 5) (P : Nat) (hP : P = fitS (xs.length % 64) ys.length) :
    (sumC g (restL xs) n).take (5 + xs.length % 64) ++ ((ys.take P).map (Value.int .u8) ++ (sumC g (restL xs) n).drop (5 + xs.length % 64 + P)) = sumC g (laidR xs ys) n := by
  have hPl : P ≤ 64 - xs.length % 64 := by rw [hP]; unfold fitS; omega
  have e0 : sumC g (restL xs) n = (g.map (Value.int .u32) ++ (tailR xs).map (Value.int .u8)) ++ ((zs (64 - xs.length % 64)).map (Value.int .u8) ++ [.int .u64 (n : Int)]) := by
    unfold sumC restL; rw [List.map_append]; simp only [List.append_assoc]
  have l0 : (g.map (Value.int .u32) ++ (tailR xs).map (Value.int .u8)).length = 5 + xs.length % 64 := by rw [List.length_append, List.length_map, List.length_map, hg, tail_len]
  have e1 : (sumC g (restL xs) n).take (5 + xs.length % 64) = g.map (Value.int .u32) ++ (tailR xs).map (Value.int .u8) := by rw [e0]; exact List.take_left' l0
  have e2 : (sumC g (restL xs) n).drop (5 + xs.length % 64 + P) = (zs (64 - xs.length % 64 - P)).map (Value.int .u8) ++ [.int .u64 (n : Int)] := by
    rw [e0, ← List.drop_drop, List.drop_left' l0]
    have : zs (64 - xs.length % 64) = zs P ++ zs (64 - xs.length % 64 - P) := by rw [zs_add]; congr 1; omega
    rw [this, List.map_append, List.append_assoc]
    exact List.drop_left' (by simp [zs])
  rw [e1, e2]
  unfold laidR sumC
  rw [← hP, List.map_append, List.map_append]
  simp only [List.append_assoc]
theorem laid_stay {xs ys : List Int} (h : xs.length % 64 + ys.length < 64) : laidR xs ys = restL (xs ++ ys) ∧ fitS (xs.length % 64) ys.length = ys.length := by
  have e : fitS (xs.length % 64) ys.length = ys.length := by unfold fitS; omega
  refine ⟨?_, e⟩
  unfold laidR restL
  rw [e, List.take_of_length_le (Nat.le_refl _), (hash_stay h).2, List.append_assoc]
  congr 3
  rw [List.length_append]; omega
theorem laid_fill {xs ys : List Int} (h : 64 ≤ xs.length % 64 + ys.length) : laidR xs ys = tailR xs ++ ys.take (64 - xs.length % 64) ∧ fitS (xs.length % 64) ys.length = 64 - xs.length % 64 := by
  have e : fitS (xs.length % 64) ys.length = 64 - xs.length % 64 := by unfold fitS; omega
  refine ⟨?_, e⟩
  unfold laidR
  rw [e, Nat.sub_self]
  simp [zs]
theorem SumV.rest {w : World} {k : Nat} {xs ys : List Int} (h : SumV w k xs) : SumAt w k (gOf (hashH xs)) (restL xs) xs.length := h
/-- copy(s.rest[q:], b) -/
theorem wpList_copy_sum {ops : Array Oper} {tail : List Oper} {o : Oper} {a : Act} {w : World} {Q : Exit → Act → World → Prop} (hgd : o.guard = none) (d s : Operand)
    (ho : o.op = .call { callee := .builtin .copy, args := #[d, s], argTypes := #[22, 22] }) (hsz : (Try.prog.info? 5).map (·.size) = some 1)
    (k n q m c p : Nat) (g xs ys : List Int) (A : Addr) (hd : a.eval d = .slice (some ⟨k, 5 + q, none⟩) (64 - q) (64 - q)) (hs : a.eval s = .slice (some A) m c)
    (SA : SumAt w k g (restL xs) n) (NB : Nums .u8 w w.heap.size (some A) m ys) (hq : xs.length % 64 = q) (hp : fitS q m = p)
    (h : ∀ w', SumAt w' k g (laidR xs ys) n → But k w w' → wpList Try.prog ops Q tail (a.put o.dst (.int .i64 (p : Int))) w') : wpList Try.prog ops Q (o :: tail) a w := by
  subst hq
  have hpm : p ≤ m := by rw [← hp]; unfold fitS; omega
  have hl : ((ys.take p).map (Value.int .u8)).length = p := by rw [List.length_map, List.length_take, NB.len]; omega
  have hpq : p ≤ 64 - xs.length % 64 := by rw [← hp]; unfold fitS; omega
  refine Go.wpList_copy_own hgd d s _ _ ho _ Try.underlying22 hsz k (5 + xs.length % 64) (64 - xs.length % 64) (64 - xs.length % 64) A m c hd hs _ _ SA.row ((ys.take p).map (Value.int .u8)) (by rw [hl, ← hp]; rfl) ((NB.upto hpm).news rfl) ?_ ?_ ?_
  · rw [hl]; simp only [List.size_toArray, sumC_len SA.lg SA.lr]; omega
  · intro v hv
    obtain ⟨z, _, rfl⟩ := List.mem_map.1 hv
    rfl
  · rw [hl]
    have e := laid_cells g xs ys n SA.lg p (by rw [← hp, NB.len])
    refine h _ ⟨?_, SA.lg, laid_len _ _⟩ ((But.refl w).setRow _)
    rw [setRow_heap _ _ _ _ _ _ SA.row, ← e]
theorem off_cut {b o c p k : Nat} (h : Off (some ⟨b, o, none⟩) k) : Off (if c = p then some (⟨b, o, none⟩ : Addr) else some ((⟨b, o, none⟩ : Addr).add p)) k := by
  intro a ha
  have h1 : b ≠ k := h _ rfl
  split at ha <;> obtain rfl := Option.some.inj ha
  · exact h1
  · rw [memC.add_plain]; exact h1
theorem SumV.fill {w : World} {k N : Nat} {xs ys : List Int} (h : SumAt w k (mixG (gOf (hashH xs)) (tailR xs ++ ys)) (zs 64) N) (hl : xs.length % 64 + ys.length = 64) (hN : N = xs.length + ys.length) : SumV w k (xs ++ ys) := by
  have e := hash_fill hl
  have h0 : (xs ++ ys).length % 64 = 0 := by rw [List.length_append]; omega
  unfold SumV
  rw [e.1, rest_nil h0, List.length_append, ← hN, ← mixG_hash (hashH_ok xs).1 (hashH_ok xs).2]
  exact h
theorem SumV.stay {w : World} {k N : Nat} {xs ys : List Int} (h : SumAt w k (gOf (hashH xs)) (laidR xs ys) N) (hl : xs.length % 64 + ys.length < 64) (hN : N = xs.length + ys.length) : SumV w k (xs ++ ys) := by
  unfold SumV
  rw [(hash_stay hl).1, ← (laid_stay hl).1, List.length_append, ← hN]
  exact h
/-- while bytes are put behind -/
def TakeR (w : World) (k : Nat) (T : List Int) (v : Value) (wr : World) : Prop :=
  ∃ A m c zs rest, v = .slice A m c ∧ m ≤ c ∧ c ≤ 9223372036854775807 ∧ Nums .u8 wr wr.heap.size A m rest ∧ (0 < m → Off A k) ∧ SumV wr k zs ∧ zs ++ rest = T ∧ But k w wr
def TakeRet (w : World) (k : Nat) (T : List Int) (e : Ending) (w' : World) : Prop := e = .returned (.tuple #[]) ∧ SumV w' k T ∧ But k w w'
set_option maxRecDepth 100000 in
set_option maxHeartbeats 1000000 in
theorem take_any (k : Nat) (xs ys : List Int) (A : Option Addr) (n c : Nat) (w : World) (h : SumV w k xs) (hb : Nums .u8 w w.heap.size A n ys) (hA : 0 < n → Off A k) (hc : n ≤ c) (hc2 : c ≤ 9223372036854775807)
    (hx : ∀ x ∈ xs, Byte x) (hy : ∀ x ∈ ys, Byte x) (hn : xs.length + n ≤ 1000000000) :
    Calls Try.prog 22 #[.pointer (some ⟨k, 0, none⟩), .slice A n c] w (TakeRet w k (xs ++ ys)) := by
  obtain ⟨i0, hi0, hz0, hz1, hz2⟩ := info_parts byte_info
  have T1 := Lib.hid hi0; have T3 := Lib.hid hz1
  have lk := h.lt
  have R0 : TakeR w k (xs ++ ys) (.slice A n c) w := ⟨A, n, c, xs, ys, rfl, hc, hc2, hb, hA, h, rfl, But.refl _⟩
  obtain ⟨T, hT⟩ : ∃ T, T = xs ++ ys := ⟨_, rfl⟩
  rw [← hT] at R0 ⊢
  have HTB := Lib.hid (show ∀ x ∈ T, Byte x by rw [hT]; exact app_byte hx hy)
  have HTL := Lib.hid (show T.length ≤ 1000000000 by rw [hT, List.length_append, hb.len]; exact hn)
  clear hT hx hy hn h hb hA hc hc2 hi0 hz0 hz1 hz2
  go_enter Try.func22, Try.ntmps22
  go_wp2_with fail
  go_loopw [1] (fun v wr => TakeR w k T v wr) (fun v _ => lenOf v)
  case atStart => exact R0
  case round =>
    obtain ⟨A, m, c, zs', rest, rfl, hmc, hc2, NB, HO, SV, hT, BU⟩ := hrel
    by_cases hm : 0 < m
    · obtain ⟨b, o, rfl, hbb, hcell⟩ := NB.at_ hm
      obtain ⟨L, hL⟩ : ∃ L, L = zs'.length := ⟨_, rfl⟩
      obtain ⟨q, hq⟩ : ∃ q, zs'.length % 64 = q := ⟨_, rfl⟩
      obtain ⟨p, hp⟩ : ∃ p, fitS q m = p := ⟨_, rfl⟩
      have hq64 : q < 64 := by omega
      have hLt : (L : Int).tmod 64 = (q : Int) := by rw [Int.tmod_eq_emod_of_nonneg (by omega)]; omega
      have hp0 : 0 < p := by rw [← hp]; unfold fitS; omega
      have hpm : p ≤ m := by rw [← hp]; unfold fitS; omega
      have hp64 : p ≤ 64 := by rw [← hp]; unfold fitS; omega
      have hTl := HTL.out
      rw [← hT, List.length_append, NB.len, ← hL] at hTl
      have cn := SV.cn
      rw [← hL] at cn
      have sl := cut_rest k q hq64
      have HSV := Lib.hid SV
      have HNB := Lib.hid NB
      have HOO := Lib.hid (HO hm)
      have HTT := Lib.hid hT
      have HBU := Lib.hid BU
      have HQ := Lib.hid hq
      have HP := Lib.hid hp
      have HLL := Lib.hid hL
      have hm0 : (0 : Int) < (m : Int) := by omega
      clear hcell NB HO SV hT BU hq hp hL
      go_upto_region 1 with fail
      go_still_tail 10, (by kernel_rfl)
      change wpList _ _ _ _ _ wr.drew
      clear sl cn hLt
      have SD : SumAt wr.drew k (gOf (hashH zs')) (restL zs') L := by rw [HLL.out]; exact HSV.out.heap rfl
      have ND : Nums .u8 wr.drew wr.drew.heap.size (some ⟨b, o, none⟩) m rest := HNB.out.heap rfl
      have HSD := Lib.hid SD
      have HND := Lib.hid ND
      have HSZ := Lib.hid (show (Try.prog.info? 5).map (·.size) = some 1 by rw [T1.out]; exact congrArg some T3.out)
      obtain ⟨A2, hA2⟩ : ∃ A2, A2 = (if c = p then some (⟨b, o, none⟩ : Addr) else some ((⟨b, o, none⟩ : Addr).add p)) := ⟨_, rfl⟩
      have sc := cut_from ⟨b, o, none⟩ m c p hpm hmc
      rw [← hA2] at sc
      have HA2 := Lib.hid hA2
      clear SD ND hA2
      go_upto_region 3 with (first
        | (refine wpList_copy_sum rfl (.tmp 16) (.tmp 17) rfl HSZ.out k L q m c p _ zs' rest ⟨b, o, none⟩ rfl rfl HSD.out HND.out HQ.out HP.out ?_
           intro w2 S2 B2))
      clear sc
      have cn := S2.cn
      have fn := S2.frozen 69
      have HS2 := Lib.hid S2
      clear S2
      go_upto_region 4 with fail
      obtain ⟨N, hN⟩ : ∃ N, N = L + p := ⟨_, rfl⟩
      have hNz : (L : Int) + (p : Int) = (N : Int) := by omega
      rw [hNz]
      have S4 := HS2.out.setn N
      have B4 : But k wr (w2.setCell ⟨k, 69, none⟩ (.int .u64 (N : Int))) := (((But.refl wr).heap (w2 := wr.drew) rfl rfl rfl rfl).trans B2).setCell 69 _
      generalize w2.setCell ⟨k, 69, none⟩ (.int .u64 (N : Int)) = w4 at *
      have cn4 := S4.cn
      have HS4 := Lib.hid S4
      have HB4 := Lib.hid B4
      have HN := Lib.hid hN
      clear hNz cn fn B2 S4 B4 hN
      by_cases hfull : 64 ≤ q + m
      · have hp2 : p = 64 - q := by rw [← HP.out]; unfold fitS; omega
        have hN0 : (N : Int) % 64 = 0 := by have := HN.out; have := HQ.out; have := HLL.out; omega
        have hr : laidR zs' rest = tailR zs' ++ rest.take p := by
          rw [(laid_fill (xs := zs') (ys := rest) (by rw [HQ.out, HNB.out.len]; exact hfull)).1, HQ.out, hp2]
        have S5 := HS4.out
        rw [hr] at S5
        have yz : ∀ x ∈ zs', Byte x := fun x hx => HTB.out x (by rw [← HTT.out]; exact List.mem_append_left _ hx)
        have yr : ∀ x ∈ rest.take p, Byte x := fun x hx => HTB.out x (by rw [← HTT.out]; exact List.mem_append_right _ (List.mem_of_mem_take hx))
        have MX := Lib.hid (mix_any k N _ _ w4 S5 (app_byte (tail_byte yz) yr))
        clear hr S5 hp2 yz yr
        go_wp2_with (first
          | (go_at_call 23; (with_reducible refine MX.out.mono ?_); rintro e w5 ⟨rfl, S5, B5⟩
             have SV5 := Lib.hid (SumV.fill S5 (by rw [HQ.out, List.length_take, HNB.out.len]; have := HP.out; unfold fitS at this; omega) (by rw [← HLL.out, List.length_take, HNB.out.len, HN.out]; omega))))
        clear S5 hN0 cn4
        go_roundw
        case rel =>
          have B6 := HB4.out.trans B5
          refine ⟨A2, m - p, c - p, zs' ++ rest.take p, rest.drop p, rfl, by omega, by omega, ?_, fun _ => by rw [HA2.out]; exact off_cut HOO.out, SV5.out, by rw [List.append_assoc, List.take_append_drop]; exact HTT.out, HBU.out.trans B6⟩
          have hcut := HNB.out.cut hpm hmc
          refine B6.nums ?_ (fun _ => by rw [HA2.out]; exact off_cut HOO.out)
          rw [HA2.out]; exact hcut
        case measure => simp [lenOf]; omega
      · have hp2 : p = m := by rw [← HP.out]; unfold fitS; omega
        have hN0 : ¬ ((N : Int) % 64 = 0) := by have := HN.out; have := HQ.out; have := HLL.out; omega
        have SV5 := Lib.hid (SumV.stay HS4.out (by rw [HQ.out, HNB.out.len]; omega) (by rw [HN.out, ← HLL.out, HNB.out.len, hp2]))
        have HP2 := Lib.hid hp2
        clear hp2
        go_wp2_with fail
        clear hN0 cn4
        go_roundw
        case rel =>
          refine ⟨A2, m - p, c - p, zs' ++ rest, rest.drop p, rfl, by omega, by omega, ?_, fun _ => by rw [HA2.out]; exact off_cut HOO.out, SV5.out, ?_, HBU.out.trans HB4.out⟩
          · have hcut := HNB.out.cut hpm hmc
            refine HB4.out.nums ?_ (fun _ => by rw [HA2.out]; exact off_cut HOO.out)
            rw [HA2.out]; exact hcut
          · rw [List.drop_eq_nil_of_le (by rw [HNB.out.len, HP2.out]; exact Nat.le_refl _), List.append_nil]; exact HTT.out
        case measure => simp [lenOf]; omega
    · have e : m = 0 := by omega
      subst e
      have hr : rest = [] := NB.zero
      subst hr
      rw [List.append_nil] at hT
      subst hT
      have HSV := Lib.hid SV
      have HBU := Lib.hid BU
      clear NB HO SV BU hm
      go_wp2_with fail
      exact bodyPost_end (results_none rfl _ _ _) rfl ⟨rfl, HSV.out, HBU.out⟩
end Go.Proofs.Ytbpolandhjcggaa.shaC
