/-
  The document's hmac: Of.
-/
import Derived.Test.YtbpolandhjcggaaHmB
import Derived.Test.YtbpolandhjcggaaFree
namespace Go.Proofs.Ytbpolandhjcggaa.hmC
open Go.ChangeShapes Go.WideShapes Go.ChangeAt Go.RowKit
open Go.Proofs.Ytbpolandhjcggaa.memC Go.Proofs.Ytbpolandhjcggaa.genC Go.Proofs.Ytbpolandhjcggaa.shaM Go.Proofs.Ytbpolandhjcggaa.shaC Go.Proofs.Ytbpolandhjcggaa.butC Go.Proofs.Ytbpolandhjcggaa.hmM Go.Proofs.Ytbpolandhjcggaa.freeC
set_option linter.unusedVariables false
def tabH : List (Option Nat) := [none, none, none, none, none, none, none, none, none, none, none, some 0, some 1, some 2, some 3, some 4]
theorem outer_byte (k msg : List Int) : ∀ x ∈ turnL k 92 ++ inL k msg, Byte x := fun x hx => (List.mem_append.1 hx).elim (turn_byte k 92 x) (sha_byte _ x)
theorem inner_byte {k msg : List Int} (h : ∀ x ∈ msg, Byte x) : ∀ x ∈ turnL k 54 ++ msg, Byte x := fun x hx => (List.mem_append.1 hx).elim (turn_byte k 54 x) (h x)
/-- append(own, numbers...) as an operation of a region that draws its order -/
theorem append_J {P : Program} {Q : Exit → Act → World → Prop} {R : Value → World → Prop} {fr : Act} {o : Oper} {w : World} {kd : IntKind} (s x : Tmp) (t : TypeId) (ho : o.op = .call { callee := .builtin .append, args := #[.tmp s, .tmp x], argTypes := #[t, t] })
    (e : TypeId) (i : TypeInfo) (z : Value) (bytes : Nat) (ht : P.underlying t = some (.slice e)) (hi : P.info? e = some i) (hz : i.zero = some z)
    (hsize : i.size = 1) (hby : i.bytes = bytes) (hzs : z.cells.size = 1) (base : Nat) (v : Value) (xs : List Int) (hs : fr.tmps[s]?.getD undef = v) (hown : Own kd e w base v xs)
    (B : Nat) (A : Option Addr) (m c : Nat) (news : List Int) (hx : fr.tmps[x]?.getD undef = .slice A m c) (hr : Nums kd w B A m news) (h63 : xs.length + m ≤ maxLen) (hbytes : (xs.length + m) * bytes ≤ 140737488355328) (hbase : base ≤ w.heap.size) (L : Nat) (hL : xs.length + m = L)
    (h : ∀ A' c' w', L ≤ c' → c' ≤ maxLen → Own kd e w' base (.slice A' L c') (xs ++ news) → Below base w w' → R (.slice A' L c') w') : o.wp P fr w (fun a' w' => ∃ v, a' = fr.put o.dst v ∧ R v w') Q := by
  obtain ⟨v', w', hrun, h2, h3⟩ := run_app (P := P) w t o.type e i z bytes ht hi hz hsize hby hzs base v xs hown B A m c news hr h63 hbytes hbase
  have e : (xs ++ news).length = L := by rw [List.length_append, hr.len]; exact hL
  obtain ⟨A', c', e2, g1, g2, N⟩ := h2.form
  rw [e] at e2 g1 N
  subst e2
  have hs' : fr.eval (.tmp s) = v := by simpa only [Act.eval, Array.getD_eq_getD_getElem?] using hs
  have hx' : fr.eval (.tmp x) = .slice A m c := by simpa only [Act.eval, Array.getD_eq_getD_getElem?] using hx
  unfold Oper.wp execOp
  simp only [ho, resolve, invoke, builtin, Sem.run_bind, Sem.run_pure, Result.andThen_ok, List.map_toArray, List.map_cons, List.map_nil, hs', hx', hrun]
  exact ⟨_, rfl, h A' c' w' g1 g2 h2 (grown_below h3 hbase fun g hg => (hown.blk g hg).1)⟩
/-- what holds while the outer digest is reckoned -/
structure MJ (w0 : World) (K d : Nat) (key : Value) (k msg : List Int) (m : Nat → Bool) (us : Nat → Value) (w : World) : Prop where
  bel : Below w0.heap.size w0 w
  res : w.heap[w0.heap.size]? = some (.cells (((if m 5 then macL k msg else nz 20)).map (Value.int .u8)).toArray 25 (0, 0))
  dig : Arr .u8 25 w d (inL k msg)
  v0 : m 0 = true → us 0 = key
  v1 : m 1 = true → m 3 = false → ∃ A c, us 1 = .slice A 64 c ∧ 64 ≤ c ∧ c ≤ maxLen ∧ Own .u8 5 w K (.slice A 64 c) (turnL k 92)
  v2 : m 2 = true → us 2 = .slice (some ⟨d, 0, none⟩) 20 20
  v3 : m 3 = true → ∃ A c, us 3 = .slice A 84 c ∧ 84 ≤ c ∧ c ≤ maxLen ∧ Own .u8 5 w K (.slice A 84 c) (turnL k 92 ++ inL k msg)
  v4 : m 4 = true → us 4 = .agg ((macL k msg).map (Value.int .u8)).toArray
  sz : K ≤ w.heap.size
  dK : d < K
  rd : w0.heap.size < d
section
variable {w0 w w' : World} {K d : Nat} {key : Value} {k msg : List Int} {m : Nat → Bool} {us : Nat → Value}
theorem MJ.s0 (h : MJ w0 K d key k msg m us w) : MJ w0 K d key k msg (upd m 0 true) (upd us 0 key) w :=
  ⟨h.bel, h.res, h.dig, fun _ => rfl, h.v1, h.v2, h.v3, h.v4, h.sz, h.dK, h.rd⟩
theorem MJ.s2 (h : MJ w0 K d key k msg m us w) : MJ w0 K d key k msg (upd m 2 true) (upd us 2 (.slice (some ⟨d, 0, none⟩) 20 20)) w :=
  ⟨h.bel, h.res, h.dig, h.v0, h.v1, fun _ => rfl, h.v3, h.v4, h.sz, h.dK, h.rd⟩
theorem MJ.ext (h : MJ w0 K d key k msg m us w) (hb : Below w.heap.size w w') : MJ w0 K d key k msg m us w' := by
  have h1 := h.dK
  have h2 := h.rd
  have h3 := h.sz
  refine ⟨h.bel.trans (hb.mono h.bel.size), (hb.block _ (by omega)).trans h.res, h.dig.below hb (by omega), h.v0, fun e1 e3 => ?_, h.v2, fun e3 => ?_, h.v4, Nat.le_trans h.sz hb.size, h.dK, h.rd⟩
  · obtain ⟨A, c, f1, f2, f3, f4⟩ := h.v1 e1 e3
    exact ⟨A, c, f1, f2, f3, f4.below hb⟩
  · obtain ⟨A, c, f1, f2, f3, f4⟩ := h.v3 e3
    exact ⟨A, c, f1, f2, f3, f4.below hb⟩
theorem MJ.s1 (h : MJ w0 K d key k msg m us w) (A : Option Addr) (c : Nat) (g1 : 64 ≤ c) (g2 : c ≤ maxLen) (O : Own .u8 5 w' K (.slice A 64 c) (turnL k 92)) (hb : Below w.heap.size w w') :
    MJ w0 K d key k msg (upd m 1 true) (upd us 1 (.slice A 64 c)) w' := by
  have h' := h.ext hb
  exact ⟨h'.bel, h'.res, h'.dig, h'.v0, fun _ _ => ⟨A, c, rfl, g1, g2, O⟩, h'.v2, h'.v3, h'.v4, h'.sz, h'.dK, h'.rd⟩
theorem MJ.s3 (h : MJ w0 K d key k msg m us w) (A : Option Addr) (c : Nat) (g1 : 84 ≤ c) (g2 : c ≤ maxLen) (O : Own .u8 5 w' K (.slice A 84 c) (turnL k 92 ++ inL k msg)) (hb : Below K w w') :
    MJ w0 K d key k msg (upd m 3 true) (upd us 3 (.slice A 84 c)) w' := by
  have h1 := h.dK
  have h2 := h.rd
  exact ⟨h.bel.trans (hb.mono (by omega)), (hb.block _ (by omega)).trans h.res, h.dig.below hb h.dK, h.v0, fun _ e => (by cases e), h.v2, fun _ => ⟨A, c, rfl, g1, g2, O⟩, h.v4, Nat.le_trans h.sz hb.size, h.dK, h.rd⟩
theorem MJ.s4 (h : MJ w0 K d key k msg m us w) (hb : Below w.heap.size w w') : MJ w0 K d key k msg (upd m 4 true) (upd us 4 (.agg ((macL k msg).map (Value.int .u8)).toArray)) w' := by
  have h' := h.ext hb
  exact ⟨h'.bel, h'.res, h'.dig, h'.v0, h'.v1, h'.v2, h'.v3, fun _ => rfl, h'.sz, h'.dK, h'.rd⟩
theorem MJ.r5 (h : MJ w0 K d key k msg m us w) (hm : m 5 = false) : w.heap[w0.heap.size]? = some (.cells ((nz 20).map (Value.int .u8)).toArray 25 (0, 0)) := by
  have := h.res
  rw [hm] at this; exact this
theorem MJ.s5 (h : MJ w0 K d key k msg m us w) (hm : m 5 = false) : MJ w0 K d key k msg (upd m 5 true) (upd us 5 undef) (w.setRow w0.heap.size ((macL k msg).map (Value.int .u8)).toArray) := by
  have h1 := h.dK
  have h2 := h.rd
  have keep : ∀ g, g ≠ w0.heap.size → (w.setRow w0.heap.size ((macL k msg).map (Value.int .u8)).toArray).heap[g]? = w.heap[g]? := fun g hg => setRow_other _ _ _ _ hg
  refine ⟨h.bel.trans ⟨rfl, rfl, rfl, by simp, fun g hg => keep g (by omega)⟩, setRow_heap _ _ _ _ _ _ (h.r5 hm), ⟨by rw [keep d (by omega)]; exact h.dig.row⟩, h.v0, fun e1 e3 => ?_, h.v2, fun e3 => ?_, h.v4, by simpa using h.sz, h.dK, h.rd⟩
  · obtain ⟨A, c, f1, f2, f3, f4⟩ := h.v1 e1 e3
    exact ⟨A, c, f1, f2, f3, f4.keep fun g hg _ => keep g (by omega)⟩
  · obtain ⟨A, c, f1, f2, f3, f4⟩ := h.v3 e3
    exact ⟨A, c, f1, f2, f3, f4.keep fun g hg _ => keep g (by omega)⟩
end
def MacRet (w : World) (k msg : List Int) (e : Ending) (w' : World) : Prop := e = .returned (.agg ((macL k msg).map (Value.int .u8)).toArray) ∧ Below w.heap.size w w'
set_option maxRecDepth 100000 in
set_option maxHeartbeats 1000000 in
theorem mac_any (A : Option Addr) (n c : Nat) (A2 : Option Addr) (n2 c2 : Nat) (k msg : List Int) (w : World) (hb : Nums .u8 w w.heap.size A n k) (hb2 : Nums .u8 w w.heap.size A2 n2 msg) (hy : ∀ x ∈ k, Byte x) (hy2 : ∀ x ∈ msg, Byte x) (hn : n ≤ 20000) (hn2 : n2 ≤ 10000) :
    Calls Try.prog 10 #[.slice A n c, .slice A2 n2 c2] w (MacRet w k msg) := by
  obtain ⟨i0, hi0, hz0, hz1, hz2⟩ := info_parts byte_info
  have T1 := Lib.hid hi0; have T2 := Lib.hid hz0; have T3 := Lib.hid hz1; have T4 := Lib.hid hz2
  obtain ⟨Z, hZ⟩ : ∃ Z, Z = ((nz 20).map (Value.int .u8)).toArray := ⟨_, rfl⟩
  have hzv := z20
  rw [← hZ] at hzv
  obtain ⟨X, hX⟩ : ∃ X, X = ((inL k msg).map (Value.int .u8)).toArray := ⟨_, rfl⟩
  have U0 := Lib.hid (show (Try.prog.info? 25).map (·.size) = some X.size by rw [digest_info, hX]; simp [inL, sha_len])
  have ZS := Lib.hid (show Z.size = X.size by rw [hZ, hX]; simp [nz, inL, sha_len])
  have HO := Lib.hid (show X.all (·.oneCell') = true by rw [hX]; exact nums_one _)
  have U1 := Lib.hid (show (Try.prog.info? 25).map (·.size) = some (((macL k msg).map (Value.int .u8)).toArray).size by rw [digest_info]; simp [mac_len])
  have L1 := Lib.hid (show (((nz 20).map (Value.int .u8)).toArray).size = (((macL k msg).map (Value.int .u8)).toArray).size by simp [nz, mac_len])
  have SW := alloc_size w (.cells Z 25)
  have BW := alloc_below w (.cells Z 25)
  have RW : (w.alloc (.cells Z 25)).heap[w.heap.size]? = some (.cells ((nz 20).map (Value.int .u8)).toArray 25 (0, 0)) := by rw [← hZ]; exact heap_alloc_new _ _
  have TU := Lib.hid (fun (w' : World) (B : Below w.heap.size w w') => turned_any A n c k 92 w' ((hb.below B).more B.size) hy hn (by decide) (by decide))
  have TI := Lib.hid (fun (w' : World) (B : Below w.heap.size w w') => turned_any A n c k 54 w' ((hb.below B).more B.size) hy hn (by decide) (by decide))
  have NM := Lib.hid (fun (w' : World) (B : Below w.heap.size w w') => hb2.below B)
  have HX := Lib.hid hX
  have HY2 := Lib.hid hy2
  have HSW := Lib.hid SW
  have HBW := Lib.hid BW
  have HRW := Lib.hid RW
  clear hZ hX hb hb2 hy hy2 hi0 hz0 hz1 hz2 SW BW RW
  go_enter Try.func10, Try.ntmps10
  go_upto_region 1 with fail
  generalize w.alloc (.cells Z 25) = W at *
  go_upto_region 2 with (first
    | (go_at_call 19; (with_reducible refine (TI.out _ HBW.out).mono ?_); rintro e w1 ⟨A3, c3, rfl, g1, g2, O3, B3⟩
       have BB := HBW.out.trans (B3.mono HBW.out.size))
    | (at_builtin; (refine wpList_appT _ rfl (.tmp 7) (.tmp 8) _ rfl 5 i0 _ 1 Try.underlying22 T1.out T2.out T3.out T4.out rfl W.heap.size _ _ rfl O3 w.heap.size A2 n2 c2 msg rfl (NM.out _ BB) (by rw [turn_len]; simp only [maxLen]; omega) (by rw [turn_len]; omega) B3.size (64 + n2) (by rw [turn_len]) ?_)
       intro A4 c4 w4 g3 g4 O4 B4)
    | (go_at_call 18; (refine (of_any A4 (64 + n2) c4 _ w4 O4.nums (inner_byte HY2.out) (by omega)).mono ?_); rintro e w5 ⟨he, B5⟩
       obtain rfl : e = .returned (.agg X) := by rw [he, HX.out]; rfl
       clear he)
    | (refine wpList_store_row rfl 25 (.tmp 5) (.tmp 10) rfl w5.heap.size X rfl rfl _ _ (heap_alloc_new _ _) U0.out ZS.out HO.out ?_))
  rw [World.setRow_alloc_new]
  have J0 : MJ w (w5.alloc (.cells X 25)).heap.size w5.heap.size (.slice A n c) k msg (fun _ => false) (fun _ => undef) (w5.alloc (.cells X 25)).drew := by
    have q1 := HSW.out
    have q2 := B3.size
    have q3 := B4.size
    have q4 := B5.size
    have b5 : Below w.heap.size w w5 := (BB.trans (B4.mono (by omega))).trans (B5.mono (by omega))
    refine ⟨(b5.alloc b5.size _).drew, ?_, ?_, ?_, ?_, ?_, ?_, ?_, Nat.le_refl _, by rw [alloc_size]; omega, by omega⟩
    · show (w5.alloc (.cells X 25)).heap[w.heap.size]? = _
      rw [(alloc_below w5 _).block _ (by omega), B5.block _ (by omega), B4.block _ (by omega), B3.block _ (by omega)]
      exact HRW.out
    · rw [HX.out]; exact (Arr.new w5 .u8 25 (inL k msg)).heap rfl
    · intro h; cases h
    · intro h; cases h
    · intro h; cases h
    · intro h; cases h
    · intro h; cases h
  generalize hK : (w5.alloc (.cells X 25)).heap.size = K at *
  generalize w5.alloc (.cells X 25) = w6 at *
  generalize w5.heap.size = d at *
  have HJ0 := Lib.hid J0
  clear J0 hK hzv
  refine with_act fun a0 ha0 => ?_
  have hl : tabH.length = a0.tmps.size := by rw [ha0]; rfl
  have k0 : a0.tmps[0]?.getD undef = .slice A n c := by rw [ha0]; rfl
  have k4 : a0.tmps[4]?.getD undef = .pointer (some ⟨w.heap.size, 0, none⟩) := by rw [ha0]; rfl
  have k5 : a0.tmps[5]?.getD undef = .pointer (some ⟨d, 0, none⟩) := by rw [ha0]; rfl
  refine wp_region_J (by kernel_rfl) tabH (by kernel_rfl) (by kernel_rfl) hl (fun _ => undef) (by rw [ha0]; rfl) (MJ w K d (.slice A n c) k msg) HJ0.out ⟨?_, ?_, ?_, ?_, ?_, ?_, trivial⟩ ?_
  · refine stepJ [] (by kernel_rfl) rfl fun m us w' hJ hmi hd => ?_
    have o0 := (frame_old2 (us := us) (a := a0) (show (tabH[0]?).join = none from rfl)).trans k0
    generalize frame tabH a0 us = fr at *
    exact val_J (v := .slice A n c) (w' := w') (by go_simp) hJ.s0
  · refine stepJ [0] (by kernel_rfl) rfl fun m us w' hJ hmi hd => ?_
    have v0 := (frame_at2 (us := us) hl (show (tabH[11]?).join = some 0 from rfl)).trans (hJ.v0 (hd 0 (by simp)))
    generalize frame tabH a0 us = fr at *
    refine call_J (f := 19) (args := #[.slice A n c, .int .u8 92]) (by go_simp) ((TU.out w' hJ.bel).mono ?_)
    rintro e w'' ⟨A3, c3, rfl, g1, g2, O3, B3⟩
    exact ⟨_, rfl, hJ.s1 A3 c3 g1 g2 (O3.less hJ.sz) B3⟩
  · refine stepJ [] (by kernel_rfl) rfl fun m us w' hJ hmi hd => ?_
    have o5 := (frame_old2 (us := us) (a := a0) (show (tabH[5]?).join = none from rfl)).trans k5
    generalize frame tabH a0 us = fr at *
    exact val_J (v := .slice (some ⟨d, 0, none⟩) 20 20) (w' := w') (by go_simp) hJ.s2
  · refine stepJ [1, 2] (by kernel_rfl) rfl fun m us w' hJ hmi hd => ?_
    obtain ⟨A3, c3, e1, g1, g2, O3⟩ := hJ.v1 (hd 1 (by simp)) hmi
    have v1 := (frame_at2 (us := us) hl (show (tabH[12]?).join = some 1 from rfl)).trans e1
    have v2 := (frame_at2 (us := us) hl (show (tabH[13]?).join = some 2 from rfl)).trans (hJ.v2 (hd 2 (by simp)))
    generalize frame tabH a0 us = fr at *
    exact append_J 12 13 22 rfl 5 i0 _ 1 Try.underlying22 T1.out T2.out T3.out T4.out rfl K _ _ v1 O3 _ _ 20 20 _ v2 (hJ.dig.part (sha_len _)) (by rw [turn_len]; simp [maxLen]) (by rw [turn_len]; decide) hJ.sz 84 (by rw [turn_len]) fun A4 c4 w4 g3 g4 O4 B4 => hJ.s3 A4 c4 g3 g4 O4 B4
  · refine stepJ [3] (by kernel_rfl) rfl fun m us w' hJ hmi hd => ?_
    obtain ⟨A3, c3, e3, g1, g2, O3⟩ := hJ.v3 (hd 3 (by simp))
    have v3 := (frame_at2 (us := us) hl (show (tabH[14]?).join = some 3 from rfl)).trans e3
    generalize frame tabH a0 us = fr at *
    refine call_J (f := 18) (args := #[.slice A3 84 c3]) (by go_simp) ((of_any A3 84 c3 _ w' O3.nums (outer_byte k msg) (by decide)).mono ?_)
    rintro e w'' ⟨rfl, B3⟩
    exact ⟨_, rfl, hJ.s4 B3⟩
  · refine stepJ [4] (by kernel_rfl) rfl fun m us w' hJ hmi hd => ?_
    have v4 := (frame_at2 (us := us) hl (show (tabH[15]?).join = some 4 from rfl)).trans (hJ.v4 (hd 4 (by simp)))
    have o4 := (frame_old2 (us := us) (a := a0) (show (tabH[4]?).join = none from rfl)).trans k4
    generalize frame tabH a0 us = fr at *
    exact store_J 25 4 15 rfl w.heap.size _ o4 v4 _ _ (hJ.r5 hmi) U1.out L1.out (nums_one _) (hJ.s5 hmi)
  · intro m us w7 hmm hJ
    have hr := hJ.res
    rw [hmm 5 (by decide)] at hr
    have HR := Lib.hid hr
    have HB := Lib.hid hJ.bel
    clear hr hJ hmm hl k0 k4 k5
    subst ha0
    simp only [Act.put, frame, tabH, fill]
    go_wp2_with fail
    refine bodyPost_ret (v := .agg ((macL k msg).map (Value.int .u8)).toArray) (results_cell_row Try.results10 _ _ w.heap.size _ _ _ _ (by rfl) HR.out Try.underlying25 rfl U1.out) rfl ⟨rfl, HB.out⟩
end Go.Proofs.Ytbpolandhjcggaa.hmC
