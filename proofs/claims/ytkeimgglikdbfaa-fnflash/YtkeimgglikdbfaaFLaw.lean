/- The law FnFlash. -/
import Derived.Test.YtkeimgglikdbfaaFDraw3
import Derived.Test.YtkeimgglikdbfaaFMath
import Derived.Test.YtkeimgglikdbfaaLwFlash
import Derived.Test.YtkeimgglikdbfaaIFWrite
import Derived.Test.YtkeimgglikdbfaaIFCrash
import Derived.Test.YtkeimgglikdbfaaIFSync
import Derived.Test.YtkeimgglikdbfaaIFRead
import Derived.Test.YtkeimgglikdbfaaINew
import Derived.Test.YtkeimgglikdbfaaITorn
namespace Go.Proofs.Ytkeimgglikdbfaa
open Go.RowKit

theorem DF.fits {F : FM} (h : DF F) : FFits F := ⟨by have := h.most; omega, by have := h.dirty; omega⟩
theorem DF.ss {F : FM} (h : DF F) : ∀ s ∈ F.sec, s.size ≤ 1048576 := fun s hs => by have := h.sec s hs; omega
theorem DF.ds {F : FM} (h : DF F) : ∀ d ∈ F.dir, d.2.size ≤ 1048576 := fun d hd => by have := h.dir d hd; omega

theorem keepAll {W w' : World} {nf nx ne nc ns ng : Nat} {x00 x01 x10 x11 x12 x13 x20 x21 x30 x31 x40 x41 x42 x43 x50 x51 : Value} (h0 : Bx W nf 26 #[x00, x01]) (h1 : Bx W nx 30 #[x10, x11, x12, x13]) (h2 : Bx W ne 26 #[x20, x21]) (h3 : Bx W nc 26 #[x30, x31]) (h4 : Bx W ns 30 #[x40, x41, x42, x43]) (h5 : Bx W ng 26 #[x50, x51]) (hb : Below W.heap.size W w') :
    w'.cell? ⟨nf, 0, none⟩ = some x00 ∧ w'.cell? ⟨nf, 1, none⟩ = some x01 ∧ w'.cell? ⟨nx, 0, none⟩ = some x10 ∧ w'.cell? ⟨nx, 1, none⟩ = some x11 ∧ w'.cell? ⟨nx, 2, none⟩ = some x12 ∧ w'.cell? ⟨nx, 3, none⟩ = some x13 ∧ w'.cell? ⟨ne, 0, none⟩ = some x20 ∧ w'.cell? ⟨ne, 1, none⟩ = some x21 ∧ w'.cell? ⟨nc, 0, none⟩ = some x30 ∧ w'.cell? ⟨nc, 1, none⟩ = some x31 ∧ w'.cell? ⟨ns, 0, none⟩ = some x40 ∧ w'.cell? ⟨ns, 1, none⟩ = some x41 ∧ w'.cell? ⟨ns, 2, none⟩ = some x42 ∧ w'.cell? ⟨ns, 3, none⟩ = some x43 ∧ w'.cell? ⟨ng, 0, none⟩ = some x50 ∧ w'.cell? ⟨ng, 1, none⟩ = some x51 ∧ Below W.heap.size W w' :=
  ⟨(h0.next hb).c0, (h0.next hb).c1, (h1.next hb).q0, (h1.next hb).q1, (h1.next hb).q2, (h1.next hb).q3, (h2.next hb).c0, (h2.next hb).c1, (h3.next hb).c0, (h3.next hb).c1, (h4.next hb).q0, (h4.next hb).q1, (h4.next hb).q2, (h4.next hb).q3, (h5.next hb).c0, (h5.next hb).c1, hb⟩
def Sz (F : FM) : Prop := FFits F ∧ (∀ s ∈ F.sec, s.size ≤ 1048576) ∧ ∀ d ∈ F.dir, d.2.size ≤ 1048576
theorem sz_no : Sz noFlash := ⟨⟨by simp [noFlash], by simp [noFlash]⟩, by simp [noFlash], by simp [noFlash]⟩
theorem sized_w {F : FM} {a : Int} {x : ByteArray} (h : Sz F) (hx : x.size ≤ 1048576) : Sz (writeOf F a x).fl := by
  refine ⟨write_fits h.1, ?_, ?_⟩
  · unfold writeOf
    split
    · exact sz_no.2.1
    · split
      · split
        · exact h.2.1
        · exact sz_no.2.1
      · exact sz_no.2.1
  · unfold writeOf
    split
    · exact sz_no.2.2
    · split
      · split
        · intro d hd
          rcases mem_putD' F.dir hd with h' | h'
          · exact h.2.2 d h'
          · rw [h']; exact hx
        · exact sz_no.2.2
      · exact sz_no.2.2
theorem sized_s {F : FM} (h : Sz F) : Sz (fsyncOf F).fl := by
  refine ⟨sync_fits h.1, ?_, ?_⟩
  · unfold fsyncOf
    split
    · intro s hs
      rcases syncL_mem' F.dir F.sec s hs with h' | ⟨d, hd, e⟩
      · exact h.2.1 s h'
      · rw [e]; exact h.2.2 d hd
    · exact sz_no.2.1
  · unfold fsyncOf
    split
    · intro d hd; simp [syncOf] at hd
    · exact sz_no.2.2
theorem sized_r {F : FM} {i : Int} (h : Sz F) : Sz (readOf F i).fl := by
  unfold readOf
  split
  · split
    · exact h
    · exact sz_no
  · exact sz_no
theorem fresh_fits (n : Int) : FFits (freshOf n) := by
  unfold freshOf
  split
  · exact ⟨by simp; omega, by simp⟩
  · exact ⟨by simp [noFlash], by simp [noFlash]⟩
theorem tornB {n : FuncId} {args : Array Value} {w : World} {s : ByteArray} (h : Calls Try.prog n args w fun e w' => e = .returned (.string s) ∧ w' = w) : Calls Try.prog n args w fun e w' => e = .returned (.string s) ∧ Below w.heap.size w w' :=
  h.mono fun e w' ⟨h1, h2⟩ => ⟨h1, h2 ▸ Below.refl _ _⟩
theorem same_bool {a b : Bool} {P : Prop} (h : a = true ↔ P) (k : b = true ↔ P) : a = b := by
  cases a <;> cases b <;> simp_all

theorem toList_inj {a b : ByteArray} (h : (a.toList == b.toList) = true) : a = b := by
  have h := eq_of_beq h
  rw [ByteArray.toList_eq, ByteArray.toList_eq] at h
  exact ByteArray.ext (Array.toList_inj.1 h)
def FlCut (W : World) (c : Value) (wx : World) : Prop := c = .bool false ∧ Below W.heap.size W wx
def FlRel (n : Nat) (W : World) (i want : Value) (wr : World) : Prop := ∃ k : Nat, k ≤ n ∧ i = .int .i64 (k : Int) ∧ Below W.heap.size W wr
def FlRel3 (n : Nat) (W : World) (i now left : Value) (wr : World) : Prop := ∃ k : Nat, k ≤ n ∧ i = .int .i64 (k : Int) ∧ Below W.heap.size W wr
theorem field_data (s t : Value) (d : ByteArray) (c : Int) (w : World) : (Instr.field 30 (.agg #[s, t, .string d, .int .i64 c]) 1).run Try.prog w = .ok (.string d) w := by
  simp [Instr.field, go_sem, asAgg]
theorem strs_get? {l : List ByteArray} {k : Nat} {s : ByteArray} (h : l[k]? = some s) : (strs l)[k]? = some (.string s) := by
  simp [strs, h]

set_option maxHeartbeats 8000000 in
set_option maxRecDepth 100000 in
theorem flashLaw_mid (a0 a1 : Option Addr) (len0 cap0 len1 cap1 : Nat) (w : World) (hB0 : Bytes w a0 len0) (hB1 : Bytes w a1 len1) (h0 : len0 ≤ 1048576) (h1 : len1 ≤ 1048576) :
    Calls Try.prog 3 #[.slice a0 len0 cap0, .slice a1 len1 cap1] w fun e w' => e = .returned (.bool true) ∧ Below w.heap.size w w' := by
  have B0 := Lib.hid hB0
  have B1 := Lib.hid hB1
  have BW := Lib.hid (Below.refl w.heap.size w)
  clear hB0 hB1
  have d0 : decide ((1048576 : Int) < (len0 : Int)) = false := decide_eq_false (by omega)
  have d1 : decide ((1048576 : Int) < (len1 : Int)) = false := decide_eq_false (by omega)
  go_enter Try.func3, Try.ntmps3
  go_wp2_with fail
  refine (drawWrite_any a0 len0 cap0 w B0.out h0).mono ?_
  rintro e w1 ⟨F, sf, tf, at_, x, hdf, hat, hx, rfl, hfg, hbel⟩
  obtain ⟨p1, q1, rfl, -⟩ := id hfg.1.2
  obtain ⟨r1, u1, rfl, -⟩ := id hfg.2.1.2
  have DF1 := Lib.hid hdf
  have hal := below_alloc1 w1 (.cells #[.slice p1 F.sec.length q1, .slice r1 F.dir.length u1] 26)
  have hbb := hbel.trans (hal.mono hbel.size)
  have XF9 := Lib.hid (bx_new w1 26 #[.slice p1 F.sec.length q1, .slice r1 F.dir.length u1])
  have RF9 := Lib.hid (hfg.rd.below hal (Nat.le_refl _))
  have B09 := Lib.hid (B0.out.below hbb)
  have B19 := Lib.hid (B1.out.below hbb)
  have BW9 := Lib.hid (BW.out.trans (hbb.mono BW.out.size))
  clear B0 B1 BW
  have B0 := B09
  clear B09
  have B1 := B19
  clear B19
  have BW := BW9
  clear BW9
  have XF := XF9
  have RF := RF9
  clear XF9 RF9 hal hbb hbel
  clear hdf hfg
  go_wp2_with fail
  generalize w1.alloc (.cells #[.slice p1 F.sec.length q1, .slice r1 F.dir.length u1] 26) = W1 at *
  generalize w1.heap.size = nf at *
  clear w1
  obtain ⟨Ox, hOx⟩ : ∃ O, O = writeOf F at_ x := ⟨_, rfl⟩
  have HOX := Lib.hid hOx
  have hc := implFWrite _ _ F at_ x W1 RF.out DF1.out.fits DF1.out.ss DF1.out.ds (by omega)
  rw [← hOx] at hc
  clear hOx
  refine hc.mono ?_
  clear hc
  rintro e w2 ⟨sx, tx, rfl, hfg, hbel⟩
  obtain ⟨p2, q2, rfl, -⟩ := id hfg.1.2
  obtain ⟨r2, u2, rfl, -⟩ := id hfg.2.1.2
  have hal := below_alloc1 w2 (.cells #[.slice p2 Ox.fl.sec.length q2, .slice r2 Ox.fl.dir.length u2, .string Ox.data, .int .i64 Ox.code] 30)
  have hbb := hbel.trans (hal.mono hbel.size)
  have XX9 := Lib.hid (bx_new w2 30 #[.slice p2 Ox.fl.sec.length q2, .slice r2 Ox.fl.dir.length u2, .string Ox.data, .int .i64 Ox.code])
  have RX9 := Lib.hid (hfg.rd.below hal (Nat.le_refl _))
  have B09 := Lib.hid (B0.out.below hbb)
  have B19 := Lib.hid (B1.out.below hbb)
  have XF9 := Lib.hid (XF.out.next hbb)
  have RF9 := Lib.hid (RF.out.below hbb (Nat.le_refl _))
  have BW9 := Lib.hid (BW.out.trans (hbb.mono BW.out.size))
  clear B0 B1 XF RF BW
  have B0 := B09
  clear B09
  have B1 := B19
  clear B19
  have XF := XF9
  clear XF9
  have RF := RF9
  clear RF9
  have BW := BW9
  clear BW9
  have XX := XX9
  have RX := RX9
  clear XX9 RX9 hal hbb hbel
  clear hfg
  go_wp2_with fail
  generalize w2.alloc (.cells #[.slice p2 Ox.fl.sec.length q2, .slice r2 Ox.fl.dir.length u2, .string Ox.data, .int .i64 Ox.code] 30) = W2 at *
  generalize w2.heap.size = nx at *
  clear w2
  refine (drawCrash_any a1 len1 cap1 W2 B1.out h1).mono ?_
  rintro e w3 ⟨E, se, te, fs, fv, hdf, hfl, hfb, rfl, hfg, hof, hbel⟩
  obtain ⟨p3, q3, rfl, -⟩ := id hfg.1.2
  obtain ⟨r3, u3, rfl, -⟩ := id hfg.2.1.2
  obtain ⟨pf, qf, rfl, -⟩ := id hof.2
  have DF3 := Lib.hid hdf
  have FB := Lib.hid hfb
  have OF9 := Lib.hid (hof.rd.below (below_alloc1 w3 (.cells #[.slice p3 E.sec.length q3, .slice r3 E.dir.length u3] 26)) (Nat.le_refl _))
  have hal := below_alloc1 w3 (.cells #[.slice p3 E.sec.length q3, .slice r3 E.dir.length u3] 26)
  have hbb := hbel.trans (hal.mono hbel.size)
  have XE9 := Lib.hid (bx_new w3 26 #[.slice p3 E.sec.length q3, .slice r3 E.dir.length u3])
  have RE9 := Lib.hid (hfg.rd.below hal (Nat.le_refl _))
  have B09 := Lib.hid (B0.out.below hbb)
  have B19 := Lib.hid (B1.out.below hbb)
  have XF9 := Lib.hid (XF.out.next hbb)
  have RF9 := Lib.hid (RF.out.below hbb (Nat.le_refl _))
  have XX9 := Lib.hid (XX.out.next hbb)
  have RX9 := Lib.hid (RX.out.below hbb (Nat.le_refl _))
  have BW9 := Lib.hid (BW.out.trans (hbb.mono BW.out.size))
  clear B0 B1 XF RF XX RX BW
  have B0 := B09
  clear B09
  have B1 := B19
  clear B19
  have XF := XF9
  clear XF9
  have RF := RF9
  clear RF9
  have XX := XX9
  clear XX9
  have RX := RX9
  clear RX9
  have BW := BW9
  clear BW9
  have XE := XE9
  have RE := RE9
  clear XE9 RE9 hal hbb hbel
  have RV := OF9
  clear OF9 hdf hfg hof hfb
  go_wp2_with fail
  generalize w3.alloc (.cells #[.slice p3 E.sec.length q3, .slice r3 E.dir.length u3] 26) = W3 at *
  generalize w3.heap.size = ne at *
  clear w3
  obtain ⟨C, hC⟩ : ∃ C, C = crashOf E fs := ⟨_, rfl⟩
  have HC := Lib.hid hC
  have hc := implFCrash _ _ E _ fs W3 RE.out DF3.out.fits DF3.out.ss DF3.out.ds RV.out (by omega) FB.out
  rw [← hC] at hc
  clear hC
  refine hc.mono ?_
  clear hc
  rintro e w4 ⟨sc, tc, rfl, hfg, hbel⟩
  obtain ⟨p4, q4, rfl, -⟩ := id hfg.1.2
  obtain ⟨r4, u4, rfl, -⟩ := id hfg.2.1.2
  have hal := below_alloc1 w4 (.cells #[.slice p4 C.sec.length q4, .slice r4 C.dir.length u4] 26)
  have hbb := hbel.trans (hal.mono hbel.size)
  have XC9 := Lib.hid (bx_new w4 26 #[.slice p4 C.sec.length q4, .slice r4 C.dir.length u4])
  have RC9 := Lib.hid (hfg.rd.below hal (Nat.le_refl _))
  have B09 := Lib.hid (B0.out.below hbb)
  have B19 := Lib.hid (B1.out.below hbb)
  have XF9 := Lib.hid (XF.out.next hbb)
  have RF9 := Lib.hid (RF.out.below hbb (Nat.le_refl _))
  have XX9 := Lib.hid (XX.out.next hbb)
  have RX9 := Lib.hid (RX.out.below hbb (Nat.le_refl _))
  have XE9 := Lib.hid (XE.out.next hbb)
  have RE9 := Lib.hid (RE.out.below hbb (Nat.le_refl _))
  have RV9 := Lib.hid (RV.out.below hbb (Nat.le_refl _))
  have BW9 := Lib.hid (BW.out.trans (hbb.mono BW.out.size))
  clear B0 B1 XF RF XX RX XE RE RV BW
  have B0 := B09
  clear B09
  have B1 := B19
  clear B19
  have XF := XF9
  clear XF9
  have RF := RF9
  clear RF9
  have XX := XX9
  clear XX9
  have RX := RX9
  clear RX9
  have XE := XE9
  clear XE9
  have RE := RE9
  clear RE9
  have RV := RV9
  clear RV9
  have BW := BW9
  clear BW9
  have XC := XC9
  have RC := RC9
  clear XC9 RC9 hal hbb hbel
  clear hfg
  have xe0 := XE.out.c0
  have xe1 := XE.out.c1
  go_wp2_with fail
  generalize w4.alloc (.cells #[.slice p4 C.sec.length q4, .slice r4 C.dir.length u4] 26) = W4 at *
  generalize w4.heap.size = nc at *
  clear w4
  clear xe0 xe1
  obtain ⟨Os, hOs⟩ : ∃ O, O = fsyncOf E := ⟨_, rfl⟩
  have HOS := Lib.hid hOs
  have hc := implFSync _ _ E W4 RE.out DF3.out.fits DF3.out.ss DF3.out.ds
  rw [← hOs] at hc
  clear hOs
  refine hc.mono ?_
  clear hc
  rintro e w5 ⟨ss, ts, rfl, hfg, hbel⟩
  obtain ⟨p5, q5, rfl, -⟩ := id hfg.1.2
  obtain ⟨r5, u5, rfl, -⟩ := id hfg.2.1.2
  have hal := below_alloc1 w5 (.cells #[.slice p5 Os.fl.sec.length q5, .slice r5 Os.fl.dir.length u5, .string Os.data, .int .i64 Os.code] 30)
  have hbb := hbel.trans (hal.mono hbel.size)
  have XS9 := Lib.hid (bx_new w5 30 #[.slice p5 Os.fl.sec.length q5, .slice r5 Os.fl.dir.length u5, .string Os.data, .int .i64 Os.code])
  have RS9 := Lib.hid (hfg.rd.below hal (Nat.le_refl _))
  have B09 := Lib.hid (B0.out.below hbb)
  have B19 := Lib.hid (B1.out.below hbb)
  have XF9 := Lib.hid (XF.out.next hbb)
  have RF9 := Lib.hid (RF.out.below hbb (Nat.le_refl _))
  have XX9 := Lib.hid (XX.out.next hbb)
  have RX9 := Lib.hid (RX.out.below hbb (Nat.le_refl _))
  have XE9 := Lib.hid (XE.out.next hbb)
  have RE9 := Lib.hid (RE.out.below hbb (Nat.le_refl _))
  have RV9 := Lib.hid (RV.out.below hbb (Nat.le_refl _))
  have XC9 := Lib.hid (XC.out.next hbb)
  have RC9 := Lib.hid (RC.out.below hbb (Nat.le_refl _))
  have BW9 := Lib.hid (BW.out.trans (hbb.mono BW.out.size))
  clear B0 B1 XF RF XX RX XE RE RV XC RC BW
  have B0 := B09
  clear B09
  have B1 := B19
  clear B19
  have XF := XF9
  clear XF9
  have RF := RF9
  clear RF9
  have XX := XX9
  clear XX9
  have RX := RX9
  clear RX9
  have XE := XE9
  clear XE9
  have RE := RE9
  clear RE9
  have RV := RV9
  clear RV9
  have XC := XC9
  clear XC9
  have RC := RC9
  clear RC9
  have BW := BW9
  clear BW9
  have XS := XS9
  have RS := RS9
  clear XS9 RS9 hal hbb hbel
  clear hfg
  go_wp2_with fail
  generalize w5.alloc (.cells #[.slice p5 Os.fl.sec.length q5, .slice r5 Os.fl.dir.length u5, .string Os.data, .int .i64 Os.code] 30) = W5 at *
  generalize w5.heap.size = ns at *
  clear w5
  refine (drawRead_any a0 len0 cap0 W5 B0.out h0).mono ?_
  rintro e w6 ⟨G, sg, tg, kg, hdf, hkg, rfl, hfg, hbel⟩
  obtain ⟨p6, q6, rfl, -⟩ := id hfg.1.2
  obtain ⟨r6, u6, rfl, -⟩ := id hfg.2.1.2
  have DF6 := Lib.hid hdf
  have hal := below_alloc1 w6 (.cells #[.slice p6 G.sec.length q6, .slice r6 G.dir.length u6] 26)
  have hbb := hbel.trans (hal.mono hbel.size)
  have XG9 := Lib.hid (bx_new w6 26 #[.slice p6 G.sec.length q6, .slice r6 G.dir.length u6])
  have RG9 := Lib.hid (hfg.rd.below hal (Nat.le_refl _))
  have B09 := Lib.hid (B0.out.below hbb)
  have B19 := Lib.hid (B1.out.below hbb)
  have XF9 := Lib.hid (XF.out.next hbb)
  have RF9 := Lib.hid (RF.out.below hbb (Nat.le_refl _))
  have XX9 := Lib.hid (XX.out.next hbb)
  have RX9 := Lib.hid (RX.out.below hbb (Nat.le_refl _))
  have XE9 := Lib.hid (XE.out.next hbb)
  have RE9 := Lib.hid (RE.out.below hbb (Nat.le_refl _))
  have RV9 := Lib.hid (RV.out.below hbb (Nat.le_refl _))
  have XC9 := Lib.hid (XC.out.next hbb)
  have RC9 := Lib.hid (RC.out.below hbb (Nat.le_refl _))
  have XS9 := Lib.hid (XS.out.next hbb)
  have RS9 := Lib.hid (RS.out.below hbb (Nat.le_refl _))
  have BW9 := Lib.hid (BW.out.trans (hbb.mono BW.out.size))
  clear B0 B1 XF RF XX RX XE RE RV XC RC XS RS BW
  have B0 := B09
  clear B09
  have B1 := B19
  clear B19
  have XF := XF9
  clear XF9
  have RF := RF9
  clear RF9
  have XX := XX9
  clear XX9
  have RX := RX9
  clear RX9
  have XE := XE9
  clear XE9
  have RE := RE9
  clear RE9
  have RV := RV9
  clear RV9
  have XC := XC9
  clear XC9
  have RC := RC9
  clear RC9
  have XS := XS9
  clear XS9
  have RS := RS9
  clear RS9
  have BW := BW9
  clear BW9
  have XG := XG9
  have RG := RG9
  clear XG9 RG9 hal hbb hbel
  clear hdf hfg
  go_wp2_with fail
  generalize w6.alloc (.cells #[.slice p6 G.sec.length q6, .slice r6 G.dir.length u6] 26) = W6 at *
  generalize w6.heap.size = ng at *
  clear w6
  refine (drawNew_any a1 len1 cap1 W6 B1.out h1).mono ?_
  rintro e w7 ⟨nn, hnn, rfl, hbel⟩
  have B09 := Lib.hid (B0.out.below hbel)
  have B19 := Lib.hid (B1.out.below hbel)
  have XF9 := Lib.hid (XF.out.next hbel)
  have RF9 := Lib.hid (RF.out.below hbel (Nat.le_refl _))
  have XX9 := Lib.hid (XX.out.next hbel)
  have RX9 := Lib.hid (RX.out.below hbel (Nat.le_refl _))
  have XE9 := Lib.hid (XE.out.next hbel)
  have RE9 := Lib.hid (RE.out.below hbel (Nat.le_refl _))
  have RV9 := Lib.hid (RV.out.below hbel (Nat.le_refl _))
  have XC9 := Lib.hid (XC.out.next hbel)
  have RC9 := Lib.hid (RC.out.below hbel (Nat.le_refl _))
  have XS9 := Lib.hid (XS.out.next hbel)
  have RS9 := Lib.hid (RS.out.below hbel (Nat.le_refl _))
  have XG9 := Lib.hid (XG.out.next hbel)
  have RG9 := Lib.hid (RG.out.below hbel (Nat.le_refl _))
  have BW9 := Lib.hid (BW.out.trans (hbel.mono BW.out.size))
  clear B0 B1 XF RF XX RX XE RE RV XC RC XS RS XG RG BW
  have B0 := B09
  clear B09
  have B1 := B19
  clear B19
  have XF := XF9
  clear XF9
  have RF := RF9
  clear RF9
  have XX := XX9
  clear XX9
  have RX := RX9
  clear RX9
  have XE := XE9
  clear XE9
  have RE := RE9
  clear RE9
  have RV := RV9
  clear RV9
  have XC := XC9
  clear XC9
  have RC := RC9
  clear RC9
  have XS := XS9
  clear XS9
  have RS := RS9
  clear RS9
  have XG := XG9
  clear XG9
  have RG := RG9
  clear RG9
  have BW := BW9
  clear BW9
  clear hbel
  go_wp2_with fail
  refine (drawTorn_any a1 len1 cap1 w7 B1.out h1).mono ?_
  rintro e w8 ⟨ta, tb, fate, hta, htb, hfate, rfl, hbel⟩
  have B09 := Lib.hid (B0.out.below hbel)
  have B19 := Lib.hid (B1.out.below hbel)
  have XF9 := Lib.hid (XF.out.next hbel)
  have RF9 := Lib.hid (RF.out.below hbel (Nat.le_refl _))
  have XX9 := Lib.hid (XX.out.next hbel)
  have RX9 := Lib.hid (RX.out.below hbel (Nat.le_refl _))
  have XE9 := Lib.hid (XE.out.next hbel)
  have RE9 := Lib.hid (RE.out.below hbel (Nat.le_refl _))
  have RV9 := Lib.hid (RV.out.below hbel (Nat.le_refl _))
  have XC9 := Lib.hid (XC.out.next hbel)
  have RC9 := Lib.hid (RC.out.below hbel (Nat.le_refl _))
  have XS9 := Lib.hid (XS.out.next hbel)
  have RS9 := Lib.hid (RS.out.below hbel (Nat.le_refl _))
  have XG9 := Lib.hid (XG.out.next hbel)
  have RG9 := Lib.hid (RG.out.below hbel (Nat.le_refl _))
  have BW9 := Lib.hid (BW.out.trans (hbel.mono BW.out.size))
  clear B0 B1 XF RF XX RX XE RE RV XC RC XS RS XG RG BW
  have B0 := B09
  clear B09
  have B1 := B19
  clear B19
  have XF := XF9
  clear XF9
  have RF := RF9
  clear RF9
  have XX := XX9
  clear XX9
  have RX := RX9
  clear RX9
  have XE := XE9
  clear XE9
  have RE := RE9
  clear RE9
  have RV := RV9
  clear RV9
  have XC := XC9
  clear XC9
  have RC := RC9
  clear RC9
  have XS := XS9
  clear XS9
  have RS := RS9
  clear RS9
  have XG := XG9
  clear XG9
  have RG := RG9
  clear RG9
  have BW := BW9
  clear BW9
  clear hbel
  have xf0 := XF.out.c0
  have xf1 := XF.out.c1
  have xx0 := XX.out.q0
  have xx1 := XX.out.q1
  have xx2 := XX.out.q2
  have xx3 := XX.out.q3
  have xe0 := XE.out.c0
  have xe1 := XE.out.c1
  have xc0 := XC.out.c0
  have xc1 := XC.out.c1
  have xs0 := XS.out.q0
  have xs1 := XS.out.q1
  have xs2 := XS.out.q2
  have xs3 := XS.out.q3
  have xg0 := XG.out.c0
  have xg1 := XG.out.c1
  have CW := Lib.hid (fun (w0 : World) (h : FRd w0 (.slice p1 F.sec.length q1) (.slice r1 F.dir.length u1) F) => specWrite _ _ F at_ x w0 h DF1.out.fits DF1.out.ss DF1.out.ds (by omega))
  rw [← HOX.out] at CW
  have CC := Lib.hid (fun (w0 : World) (h : FRd w0 (.slice p3 E.sec.length q3) (.slice r3 E.dir.length u3) E) (hv : Rd w0 (.slice pf fs.length qf) fs.length 1 (ints fs)) => specCrash _ _ _ E fs w0 h DF3.out.fits DF3.out.ss DF3.out.ds hv (by unfold maxLen; omega) FB.out)
  rw [← HC.out] at CC
  have CS := Lib.hid (fun (w0 : World) (h : FRd w0 (.slice p3 E.sec.length q3) (.slice r3 E.dir.length u3) E) => specFSync _ _ E w0 h DF3.out.fits DF3.out.ss DF3.out.ds)
  rw [← HOS.out] at CS
  obtain ⟨Og, hOg⟩ : ∃ O, O = readOf G kg := ⟨_, rfl⟩
  have HOG := Lib.hid hOg
  clear hOg
  have CI := Lib.hid (fun (w0 : World) (h : FRd w0 (.slice p6 G.sec.length q6) (.slice r6 G.dir.length u6) G) => implFRead _ _ G kg w0 h DF6.out.fits DF6.out.ss DF6.out.ds)
  rw [← HOG.out] at CI
  have CR := Lib.hid (fun (w0 : World) (h : FRd w0 (.slice p6 G.sec.length q6) (.slice r6 G.dir.length u6) G) => specRead _ _ G kg w0 h DF6.out.fits DF6.out.ss DF6.out.ds)
  rw [← HOG.out] at CR
  obtain ⟨N, hN⟩ : ∃ O, O = freshOf nn := ⟨_, rfl⟩
  have CN := Lib.hid (fun w0 => implNew nn w0)
  have CM := Lib.hid (fun w0 => specNew nn w0)
  rw [← hN] at CN CM
  have HNN := Lib.hid hN
  clear hN
  obtain ⟨bb, hbb⟩ : ∃ bb : Bool, (bb = true ↔ Right E) := by
    by_cases h : Right E
    · exact ⟨true, by simp [h]⟩
    · exact ⟨false, by simp [h]⟩
  have HBB := Lib.hid hbb
  clear hbb
  have ZX : Hid (FFits Ox.fl ∧ (∀ s ∈ Ox.fl.sec, s.size ≤ 1048576) ∧ ∀ d ∈ Ox.fl.dir, d.2.size ≤ 1048576) := Lib.hid (by rw [HOX.out]; exact sized_w ⟨DF1.out.fits, DF1.out.ss, DF1.out.ds⟩ (by omega))
  have ZS : Hid (FFits Os.fl ∧ (∀ s ∈ Os.fl.sec, s.size ≤ 1048576) ∧ ∀ d ∈ Os.fl.dir, d.2.size ≤ 1048576) := Lib.hid (by rw [HOS.out]; exact sized_s ⟨DF3.out.fits, DF3.out.ss, DF3.out.ds⟩)
  have ZG : Hid (FFits Og.fl ∧ (∀ s ∈ Og.fl.sec, s.size ≤ 1048576) ∧ ∀ d ∈ Og.fl.dir, d.2.size ≤ 1048576) := Lib.hid (by rw [HOG.out]; exact sized_r ⟨DF6.out.fits, DF6.out.ss, DF6.out.ds⟩)
  have ZC : Hid (FFits C) := Lib.hid (by rw [HC.out]; exact crash_fits DF3.out.fits)
  have ZN : Hid (FFits N) := Lib.hid (by rw [HNN.out]; exact fresh_fits nn)
  have YX : Hid (Ox.code = 0 → Right Ox.fl) := Lib.hid (by rw [HOX.out]; exact fun h => (right_write h).1)
  have YS : Hid (Os.code = 0 → Right Os.fl) := Lib.hid (by rw [HOS.out]; exact fun h => (right_sync h).1)
  have YG : Hid (Og.code = 0 → Right Og.fl) := Lib.hid (by rw [HOG.out]; exact fun h => right_read h)
  obtain ⟨T, hT⟩ : ∃ T, T = torn ta tb fate := ⟨_, rfl⟩
  have HTI := Lib.hid (fun w0 => tornB (implTorn ta tb fate w0 (by unfold maxLen; omega) (by unfold maxLen; omega) hfate.1 hfate.2))
  have HTS := Lib.hid (fun w0 => tornB (specTorn ta tb fate w0 (by unfold maxLen; omega) (by unfold maxLen; omega) hfate.1 hfate.2))
  rw [← hT] at HTI HTS
  clear hT
  go_wp2_with fail
  clear xf0 xf1 xx0 xx1 xx2 xx3 xe0 xe1 xc0 xc1 xs0 xs1 xs2 xs3 xg0 xg1
  go_cut [123] (fun c wx => FlCut w8 c wx)
  case first =>
    go_region_held3 (fun w' => w'.cell? ⟨nf, 0, none⟩ = some (.slice p1 F.sec.length q1) ∧ w'.cell? ⟨nf, 1, none⟩ = some (.slice r1 F.dir.length u1) ∧ w'.cell? ⟨nx, 0, none⟩ = some (.slice p2 Ox.fl.sec.length q2) ∧ w'.cell? ⟨nx, 1, none⟩ = some (.slice r2 Ox.fl.dir.length u2) ∧ w'.cell? ⟨nx, 2, none⟩ = some (.string Ox.data) ∧ w'.cell? ⟨nx, 3, none⟩ = some (.int .i64 Ox.code) ∧ w'.cell? ⟨ne, 0, none⟩ = some (.slice p3 E.sec.length q3) ∧ w'.cell? ⟨ne, 1, none⟩ = some (.slice r3 E.dir.length u3) ∧ w'.cell? ⟨nc, 0, none⟩ = some (.slice p4 C.sec.length q4) ∧ w'.cell? ⟨nc, 1, none⟩ = some (.slice r4 C.dir.length u4) ∧ w'.cell? ⟨ns, 0, none⟩ = some (.slice p5 Os.fl.sec.length q5) ∧ w'.cell? ⟨ns, 1, none⟩ = some (.slice r5 Os.fl.dir.length u5) ∧ w'.cell? ⟨ns, 2, none⟩ = some (.string Os.data) ∧ w'.cell? ⟨ns, 3, none⟩ = some (.int .i64 Os.code) ∧ w'.cell? ⟨ng, 0, none⟩ = some (.slice p6 G.sec.length q6) ∧ w'.cell? ⟨ng, 1, none⟩ = some (.slice r6 G.dir.length u6) ∧ Below w8.heap.size w8 w')
      (first | (exact keepAll XF.out XX.out XE.out XC.out XS.out XG.out (drew_below w8)) | (go_split_ands; exact keepAll XF.out XX.out XE.out XC.out XS.out XG.out (keep_next (by assumption) hbn)))
      (first | (go_at_call 13; go_split_ands; refine (CW.out _ (RF.out.below (B := w8.heap.size) (by assumption) (Nat.le_refl _))).mono ?_; rintro e v1 ⟨ss1, tt1, rfl, ho1, hbn⟩; obtain ⟨ga1, gb1, rfl, -⟩ := id ho1.1.2; obtain ⟨gc1, gd1, rfl, -⟩ := id ho1.2.1.2; have OO1 := Lib.hid ho1; clear ho1) | (go_at_call 12; (with_reducible show Calls _ _ #[.agg #[_, _, .string Ox.data, _], _] _ _); go_split_ands; refine (lwFlashes_any _ _ _ _ Ox _ (RX.out.below (B := w8.heap.size) (by assumption) (Nat.le_refl _)) OO1.out.rd ZX.out.1 ZX.out.2.1 ZX.out.2.2 YX.out).mono ?_; rintro e v2 ⟨rfl, hbn⟩) | (go_at_call 15; go_split_ands; refine (CC.out _ (RE.out.below (B := w8.heap.size) (by assumption) (Nat.le_refl _)) (RV.out.below (B := w8.heap.size) (by assumption) (Nat.le_refl _))).mono ?_; rintro e v3 ⟨ss3, tt3, rfl, ho3, hbn⟩; obtain ⟨ga3, gb3, rfl, -⟩ := id ho3.1.2; obtain ⟨gc3, gd3, rfl, -⟩ := id ho3.2.1.2; have OO3 := Lib.hid ho3; clear ho3) | (go_at_call 14; (with_reducible show Calls _ _ #[.agg #[.slice _ C.sec.length _, _], _] _ _); go_split_ands; refine (lwFlash_any _ _ _ _ C _ (RC.out.below (B := w8.heap.size) (by assumption) (Nat.le_refl _)) OO3.out.rd ZC.out).mono ?_; rintro e v4 ⟨rfl, hbn⟩) | (go_at_call 16; go_split_ands; refine (CS.out _ (RE.out.below (B := w8.heap.size) (by assumption) (Nat.le_refl _))).mono ?_; rintro e v5 ⟨ss5, tt5, rfl, ho5, hbn⟩; obtain ⟨ga5, gb5, rfl, -⟩ := id ho5.1.2; obtain ⟨gc5, gd5, rfl, -⟩ := id ho5.2.1.2; have OO5 := Lib.hid ho5; clear ho5) | (go_at_call 12; (with_reducible show Calls _ _ #[.agg #[_, _, .string Os.data, _], _] _ _); go_split_ands; refine (lwFlashes_any _ _ _ _ Os _ (RS.out.below (B := w8.heap.size) (by assumption) (Nat.le_refl _)) OO5.out.rd ZS.out.1 ZS.out.2.1 ZS.out.2.2 YS.out).mono ?_; rintro e v6 ⟨rfl, hbn⟩) | (go_at_call 17; go_split_ands; refine (CI.out _ (RG.out.below (B := w8.heap.size) (by assumption) (Nat.le_refl _))).mono ?_; rintro e v7 ⟨ss7, tt7, rfl, ho7, hbn⟩; obtain ⟨ga7, gb7, rfl, -⟩ := id ho7.1.2; obtain ⟨gc7, gd7, rfl, -⟩ := id ho7.2.1.2; have OO7 := Lib.hid ho7; clear ho7) | (go_at_call 18; go_split_ands; refine (CR.out _ (RG.out.below (B := w8.heap.size) (by assumption) (Nat.le_refl _))).mono ?_; rintro e v8 ⟨ss8, tt8, rfl, ho8, hbn⟩; obtain ⟨ga8, gb8, rfl, -⟩ := id ho8.1.2; obtain ⟨gc8, gd8, rfl, -⟩ := id ho8.2.1.2; have OO8 := Lib.hid ho8; have OO7b := Lib.hid (OO7.out.below hbn (Nat.le_refl _)); clear ho8) | (go_at_call 12; (with_reducible show Calls _ _ #[.agg #[_, _, .string Og.data, _], _] _ _); go_split_ands; refine (lwFlashes_any _ _ _ _ Og _ OO7b.out.rd OO8.out.rd ZG.out.1 ZG.out.2.1 ZG.out.2.2 YG.out).mono ?_; rintro e v9 ⟨rfl, hbn⟩) | (go_at_call 19; go_split_ands; refine (CN.out _).mono ?_; rintro e v10 ⟨ss10, tt10, rfl, ho10, hbn⟩; obtain ⟨ga10, gb10, rfl, -⟩ := id ho10.1.2; obtain ⟨gc10, gd10, rfl, -⟩ := id ho10.2.1.2; have OO10 := Lib.hid ho10; clear ho10) | (go_at_call 20; go_split_ands; refine (CM.out _).mono ?_; rintro e v11 ⟨ss11, tt11, rfl, ho11, hbn⟩; obtain ⟨ga11, gb11, rfl, -⟩ := id ho11.1.2; obtain ⟨gc11, gd11, rfl, -⟩ := id ho11.2.1.2; have OO11 := Lib.hid ho11; have OO10b := Lib.hid (OO10.out.below hbn (Nat.le_refl _)); clear ho11) | (go_at_call 14; (with_reducible show Calls _ _ #[.agg #[.slice _ N.sec.length _, _], _] _ _); go_split_ands; refine (lwFlash_any _ _ _ _ N _ OO10b.out.rd OO11.out.rd ZN.out).mono ?_; rintro e v12 ⟨rfl, hbn⟩) | (go_at_call 21; refine (HTI.out _).mono ?_; rintro e v13 ⟨rfl, hbn⟩) | (go_at_call 22; refine (HTS.out _).mono ?_; rintro e v14 ⟨rfl, hbn⟩) | (go_at_call 23; go_split_ands; refine (implRight _ _ E _ (RE.out.below (B := w8.heap.size) (by assumption) (Nat.le_refl _)) DF3.out.fits DF3.out.ss DF3.out.ds).mono ?_; rintro e v15 ⟨b15, rfl, hiff, hbn⟩; obtain rfl : bb = b15 := (same_bool HBB.out hiff); clear hiff) | (go_at_call 24; go_split_ands; refine (specRight _ _ E _ (RE.out.below (B := w8.heap.size) (by assumption) (Nat.le_refl _)) DF3.out.fits DF3.out.ss DF3.out.ds).mono ?_; rintro e v16 ⟨b16, rfl, hiff, hbn⟩; obtain rfl : bb = b16 := (same_bool HBB.out hiff); clear hiff))
    all_goals (go_split_ands; have hbel : Below w8.heap.size w8 v16 := (by assumption); go_wp2_with fail; go_meet; case rel => exact ⟨rfl, hbel⟩)
  case rest =>
    obtain ⟨rfl, hbel⟩ := hcut
    clear XG RG B0 B1
    replace XF := Lib.hid (XF.out.next hbel)
    replace RF := Lib.hid (RF.out.below hbel (Nat.le_refl _))
    replace XX := Lib.hid (XX.out.next hbel)
    replace RX := Lib.hid (RX.out.below hbel (Nat.le_refl _))
    replace XE := Lib.hid (XE.out.next hbel)
    replace RE := Lib.hid (RE.out.below hbel (Nat.le_refl _))
    replace RV := Lib.hid (RV.out.below hbel (Nat.le_refl _))
    replace XC := Lib.hid (XC.out.next hbel)
    replace RC := Lib.hid (RC.out.below hbel (Nat.le_refl _))
    replace XS := Lib.hid (XS.out.next hbel)
    replace RS := Lib.hid (RS.out.below hbel (Nat.le_refl _))
    replace BW := Lib.hid (BW.out.trans (hbel.mono BW.out.size))
    clear hbel CW CC CS CI CR CN CM HTI HTS
    have xx3 := XX.out.q3
    by_cases hxc : Ox.code = 0
    · have hd9 : (Ox.code == 0) = true := by simp [hxc]
      have hwr := hxc
      rw [HOX.out] at hwr
      have hw9 := right_write hwr
      have HRF := Lib.hid hw9.2.1
      have HRO := Lib.hid (show Right Ox.fl by rw [HOX.out]; exact hw9.1)
      have HOP := Lib.hid (show Ox.fl = putOf F at_ x by rw [HOX.out]; exact hw9.2.2.2.1)
      have HOL := Lib.hid (show Ox.fl.sec.length = F.sec.length by rw [HOP.out]; rfl)
      have hmost1 : F.sec.length ≤ 41 := DF1.out.most
      clear hw9 hwr
      go_wp2_with fail
      clear xx3
      go_loopw [19, 20] (fun i want wr => FlRel F.sec.length wc i want wr) (fun i _ _ => F.sec.length - (intOf i).toNat)
      case atStart => exact ⟨0, by omega, rfl, Below.refl _ _⟩
      case round =>
        obtain ⟨k, hk, rfl, hb⟩ := hrel
        have XF := Lib.hid (XF.out.next hb)
        have RF := Lib.hid (RF.out.below hb (Nat.le_refl _))
        have XX := Lib.hid (XX.out.next hb)
        have RX := Lib.hid (RX.out.below hb (Nat.le_refl _))
        have XE := Lib.hid (XE.out.next hb)
        have RE := Lib.hid (RE.out.below hb (Nat.le_refl _))
        have RV := Lib.hid (RV.out.below hb (Nat.le_refl _))
        have XC := Lib.hid (XC.out.next hb)
        have RC := Lib.hid (RC.out.below hb (Nat.le_refl _))
        have XS := Lib.hid (XS.out.next hb)
        have RS := Lib.hid (RS.out.below hb (Nat.le_refl _))
        have HB := Lib.hid hb
        clear hb
        have xf0 := XF.out.c0
        have xf1 := XF.out.c1
        by_cases hlt : k < F.sec.length
        · have e0 : (k : Int) < (F.sec.length : Int) := by omega
          go_wp2_with fail
          clear xf0 xf1
          have hc := specRead _ _ F (k : Int) wr RF.out DF1.out.fits DF1.out.ss DF1.out.ds
          rw [read_data HRF.out (by omega) (by omega)] at hc
          refine hc.mono ?_
          clear hc
          rintro e y3 ⟨s3, t3, rfl, ho3, hb3⟩
          obtain ⟨p7, q7, rfl, -⟩ := id ho3.1.2
          obtain ⟨r7, u7, rfl, -⟩ := id ho3.2.1.2
          clear ho3
          have xx0 := (XX.out.next hb3).q0
          have xx1 := (XX.out.next hb3).q1
          have RX3 := Lib.hid (RX.out.below hb3 (Nat.le_refl _))
          replace HB := Lib.hid (HB.out.trans (hb3.mono HB.out.size))
          clear hb3
          have ff := field_data (.slice p7 F.sec.length q7) (.slice r7 F.dir.length u7) (getOf F (k : Int)) 0 y3
          have hget := get_put F at_ x (k : Int)
          rw [← HOP.out] at hget
          have hc := implFRead _ _ Ox.fl (k : Int) y3 RX3.out ZX.out.1 ZX.out.2.1 ZX.out.2.2
          rw [read_data HRO.out (by omega) (by rw [HOL.out]; omega), hget] at hc
          have HCC := Lib.hid hc
          clear hc hget
          simp only
          generalize getOf F (k : Int) = old at *
          have HLT := Lib.hid hlt
          by_cases hka : (k : Int) = at_
          · have d3 : decide ((k : Int) = at_) = true := decide_eq_true hka
            have d4 : ((k : Int) == at_) = true := by simpa using hka
            have HKA := Lib.hid hka
            have hc := HCC.out
            rw [if_pos hka] at hc
            clear HCC hka
            go_wp2_with fail
            clear ff
            refine hc.mono ?_
            clear hc
            rintro e y4 ⟨s4, t4, rfl, ho4, hb4⟩
            obtain ⟨p8, q8, rfl, -⟩ := id ho4.1.2
            obtain ⟨r8, u8, rfl, -⟩ := id ho4.2.1.2
            clear ho4
            have ff := field_data (.slice p8 Ox.fl.sec.length q8) (.slice r8 Ox.fl.dir.length u8) x 0 y4
            replace HB := Lib.hid (HB.out.trans (hb4.mono HB.out.size))
            clear hb4
            simp only
            go_wp2_with fail
            go_roundw
            case rel => exact ⟨k + 1, by have := HLT.out; omega, by have h9 := HKA.out; first | go_num | rfl | (congr 1; try omega), HB.out⟩
            case measure => have h8 := HLT.out; have h9 := HKA.out; simp [intOf]; omega
          · have d3 : decide ((k : Int) = at_) = false := decide_eq_false hka
            have d4 : ((k : Int) == at_) = false := by simpa using hka
            have hc := HCC.out
            rw [if_neg hka] at hc
            clear HCC hka
            go_wp2_with fail
            clear ff
            refine hc.mono ?_
            clear hc
            rintro e y4 ⟨s4, t4, rfl, ho4, hb4⟩
            obtain ⟨p8, q8, rfl, -⟩ := id ho4.1.2
            obtain ⟨r8, u8, rfl, -⟩ := id ho4.2.1.2
            clear ho4
            have ff := field_data (.slice p8 Ox.fl.sec.length q8) (.slice r8 Ox.fl.dir.length u8) old 0 y4
            replace HB := Lib.hid (HB.out.trans (hb4.mono HB.out.size))
            clear hb4
            simp only
            go_wp2_with fail
            go_roundw
            case rel => exact ⟨k + 1, by have := HLT.out; omega, by go_num, HB.out⟩
            case measure => have := HLT.out; simp [intOf]; omega
        · obtain rfl : k = F.sec.length := by omega
          have BW := Lib.hid (BW.out.trans (HB.out.mono BW.out.size))
          clear HB HRF HRO HOP HOL
          have xs3 := XS.out.q3
          by_cases hsc : Os.code = 0
          · rw [hsc] at xs3
            have hsy : Right E ∧ Os.fl = syncOf E ∧ Right (syncOf E) := by
              rw [HOS.out] at hsc
              have h9 := right_sync hsc
              exact ⟨h9.2.1, by rw [HOS.out]; exact h9.2.2.1, by rw [← h9.2.2.1]; exact h9.1⟩
            have HRE := Lib.hid hsy.1
            have HSF := Lib.hid hsy.2.1
            have HRS := Lib.hid hsy.2.2
            clear hsy
            have xs0 := XS.out.q0
            have xs1 := XS.out.q1
            go_wp2_with fail
            clear xs0 xs1 xs3
            have hc := implFCrash _ _ Os.fl _ fs wr RS.out ZS.out.1 ZS.out.2.1 ZS.out.2.2 RV.out (by omega) FB.out
            rw [show crashOf Os.fl fs = syncOf E by rw [HSF.out]; exact crash_sync HRS.out (by omega)] at hc
            refine hc.mono ?_
            clear hc
            rintro e y1 ⟨sh, th, rfl, ho1, hb1⟩
            obtain ⟨ph, qh, rfl, -⟩ := id ho1.1.2
            obtain ⟨rh, uh, rfl, -⟩ := id ho1.2.1.2
            have b2 := below_alloc1 y1 (.cells #[.slice ph (syncOf E).sec.length qh, .slice rh (syncOf E).dir.length uh] 26)
            have hb := hb1.trans (b2.mono hb1.size)
            have XH := Lib.hid (bx_new y1 26 #[.slice ph (syncOf E).sec.length qh, .slice rh (syncOf E).dir.length uh])
            have RH := Lib.hid (ho1.rd.below b2 (Nat.le_refl _))
            replace XE := Lib.hid (XE.out.next hb)
            replace RE := Lib.hid (RE.out.below hb (Nat.le_refl _))
            replace XC := Lib.hid (XC.out.next hb)
            replace RC := Lib.hid (RC.out.below hb (Nat.le_refl _))
            replace XS := Lib.hid (XS.out.next hb)
            replace BW := Lib.hid (BW.out.trans (hb.mono BW.out.size))
            clear ho1 hb1 b2 hb RS RV
            go_wp2_with fail
            generalize y1.alloc (.cells #[.slice ph (syncOf E).sec.length qh, .slice rh (syncOf E).dir.length uh] 26) = y2 at *
            generalize y1.heap.size = nh at *
            have hCE : C = crashed E fs := by rw [HC.out]; exact crash_right HRE.out (by omega)
            have HCL := Lib.hid (show C.sec.length = E.sec.length by rw [hCE]; exact crashL_length E fs _)
            have HCD := Lib.hid (show C.dir.length = 0 by rw [hCE]; rfl)
            have HSD := Lib.hid (show Os.fl.dir.length = 0 by rw [HSF.out]; rfl)
            have HSL := Lib.hid (show (syncOf E).sec.length = E.sec.length from syncL_length _ _)
            have ZH := Lib.hid (show FFits (syncOf E) ∧ (∀ s ∈ (syncOf E).sec, s.size ≤ 1048576) ∧ ∀ d ∈ (syncOf E).dir, d.2.size ≤ 1048576 by have h9 := ZS.out; rw [HSF.out] at h9; exact h9)
            have hmost : E.sec.length ≤ 41 := DF3.out.most
            have HLF := Lib.hid (fun i hi => crashL_left HRE.out fs i hi E.dir.length (Nat.le_refl _))
            have HCE := Lib.hid hCE
            clear hCE
            go_loopw [22, 23, 24] (fun i now left wr => FlRel3 E.sec.length y2 i now left wr) (fun i _ _ _ => E.sec.length - (intOf i).toNat)
            case atStart => exact ⟨0, by omega, rfl, Below.refl _ _⟩
            case round =>
              obtain ⟨k, hk, rfl, hb⟩ := hrel
              have XE := Lib.hid (XE.out.next hb)
              have RE := Lib.hid (RE.out.below hb (Nat.le_refl _))
              have XC := Lib.hid (XC.out.next hb)
              have RC := Lib.hid (RC.out.below hb (Nat.le_refl _))
              have XS := Lib.hid (XS.out.next hb)
              have XH := Lib.hid (XH.out.next hb)
              have RH := Lib.hid (RH.out.below hb (Nat.le_refl _))
              have BW := Lib.hid (BW.out.trans (hb.mono BW.out.size))
              have HB := Lib.hid hb
              clear hb
              have xe0 := XE.out.c0
              have xe1 := XE.out.c1
              by_cases hlt : k < E.sec.length
              · have e0 : (k : Int) < (E.sec.length : Int) := by omega
                go_wp2_with fail
                clear xe0 xe1
                have hc := specRead _ _ E (k : Int) wr RE.out DF3.out.fits DF3.out.ss DF3.out.ds
                rw [read_data HRE.out (by omega) (by omega)] at hc
                refine hc.mono ?_
                clear hc
                rintro e y3 ⟨s3, t3, rfl, ho3, hb3⟩
                obtain ⟨p7, q7, rfl, -⟩ := id ho3.1.2
                obtain ⟨r7, u7, rfl, -⟩ := id ho3.2.1.2
                clear ho3
                replace XE := Lib.hid (XE.out.next hb3)
                replace RE := Lib.hid (RE.out.below hb3 (Nat.le_refl _))
                replace XC := Lib.hid (XC.out.next hb3)
                replace RC := Lib.hid (RC.out.below hb3 (Nat.le_refl _))
                replace XH := Lib.hid (XH.out.next hb3)
                replace RH := Lib.hid (RH.out.below hb3 (Nat.le_refl _))
                replace HB := Lib.hid (HB.out.trans (hb3.mono HB.out.size))
                clear hb3
                obtain ⟨now, hnow⟩ : ∃ now, now = getOf E (k : Int) := ⟨_, rfl⟩
                have hleft := HLF.out k hlt
                have hck : C.sec[k]? = some ((crashL E fs E.dir.length).getD k ByteArray.empty) := by
                  rw [HCE.out]
                  show (crashL E fs E.dir.length)[k]? = _
                  rw [List.getD_eq_getElem?_getD, List.getElem?_eq_getElem (by rw [crashL_length]; exact hlt)]; rfl
                obtain ⟨left, hlf⟩ : ∃ left, left = (crashL E fs E.dir.length).getD k ByteArray.empty := ⟨_, rfl⟩
                rw [← hlf] at hleft hck
                unfold LeftOf at hleft
                rw [← hnow] at hleft
                have HNOW := Lib.hid hnow
                simp only
                rw [← hnow]
                clear hnow hlf
                have ff := field_data (.slice p7 E.sec.length q7) (.slice r7 E.dir.length u7) now 0 y3
                have xc0 := XC.out.c0
                have xh0 := XH.out.c0
                have xh1 := XH.out.c1
                have e9 : (k : Int) < (C.sec.length : Int) := by rw [HCL.out]; omega
                obtain ⟨bc, oc, hpc, hlc, hcc⟩ := RC.out.1.get (by rw [HCL.out]; omega)
                subst hpc
                have rc := hcc k (by rw [HCL.out]; omega)
                rw [strs_get? hck] at rc
                clear hcc hck
                have e1 : (0 : Int) ≤ (k : Int) := by omega
                go_wp2_with fail
                clear ff xc0 xh0 xh1 rc
                have hc := implFRead _ _ (syncOf E) (k : Int) y3 RH.out ZH.out.1 ZH.out.2.1 ZH.out.2.2
                rw [read_data HRS.out (by omega) (by rw [HSL.out]; omega), get_sync HRE.out (by omega) (by omega), ← HNOW.out] at hc
                refine hc.mono ?_
                clear hc
                rintro e y4 ⟨s4, t4, rfl, ho4, hb4⟩
                obtain ⟨p8, q8, rfl, -⟩ := id ho4.1.2
                obtain ⟨r8, u8, rfl, -⟩ := id ho4.2.1.2
                clear ho4
                have xe0 := (XE.out.next hb4).c0
                have re4 := (RE.out.below hb4 (Nat.le_refl _)).1
                obtain ⟨be, oe, hpe, hle, hce⟩ := re4.get (by omega)
                subst hpe
                have re := hce k (by omega)
                rw [strs_get? (List.getElem?_eq_getElem hlt)] at re
                clear hce re4
                replace HB := Lib.hid (HB.out.trans (hb4.mono HB.out.size))
                clear hb4
                have ff := field_data (.slice p8 (syncOf E).sec.length q8) (.slice r8 (syncOf E).dir.length u8) now 0 y4
                have hold : E.sec.getD k ByteArray.empty = E.sec[k] := by rw [List.getD_eq_getElem?_getD, List.getElem?_eq_getElem hlt]; rfl
                rw [hold] at hleft
                clear hold
                generalize E.sec[k] = old at *
                cases hq : (left.toList == old.toList) with
                | true =>
                  obtain rfl := toList_inj hq
                  clear hleft hq
                  go_wp2_with fail
                  go_roundw
                  case rel => exact ⟨k + 1, by omega, by go_num, HB.out⟩
                  case measure => simp [intOf]; omega
                | false =>
                  obtain ⟨n, hn, hle2⟩ : ∃ n, n ≤ now.size ∧ left = now.extract 0 n := by
                    rcases hleft with h9 | h9
                    · rw [h9] at hq; simp at hq
                    · exact h9
                  have hsz : left.size = n := by rw [hle2, ByteArray.size_extract]; omega
                  have hex : now.extract 0 left.size = left := by rw [hsz]; exact hle2.symm
                  have hls : (left.size : Int) ≤ (now.size : Int) := by omega
                  have d5 : decide ((now.size : Int) < (left.size : Int)) = false := decide_eq_false (by omega)
                  have hls2 : left.size ≤ now.size := by omega
                  clear hleft hle2 hsz hn
                  go_wp2_with fail
                  go_roundw
                  case rel => exact ⟨k + 1, by omega, by go_num, HB.out⟩
                  case measure => simp [intOf]; omega
              · obtain rfl : k = E.sec.length := by omega
                have xc1 := XC.out.c1
                have xs1 := XS.out.q1
                rw [HCD.out] at xc1
                rw [HSD.out] at xs1
                go_wp2_with fail
                go_ret
                exact ⟨rfl, BW.out⟩
          · have d9 : (Os.code != 0) = true := by simpa using hsc
            go_wp2_with fail
            go_ret
            exact ⟨rfl, BW.out⟩
    · have hd9 : (Ox.code == 0) = false := by simpa using hxc
      have xs3 := XS.out.q3
      by_cases hsc : Os.code = 0
      · rw [hsc] at xs3
        have hsy : Right E ∧ Os.fl = syncOf E ∧ Right (syncOf E) := by
          rw [HOS.out] at hsc
          have h9 := right_sync hsc
          exact ⟨h9.2.1, by rw [HOS.out]; exact h9.2.2.1, by rw [← h9.2.2.1]; exact h9.1⟩
        have HRE := Lib.hid hsy.1
        have HSF := Lib.hid hsy.2.1
        have HRS := Lib.hid hsy.2.2
        clear hsy
        have xs0 := XS.out.q0
        have xs1 := XS.out.q1
        go_wp2_with fail
        clear xs0 xs1 xs3
        have hc := implFCrash _ _ Os.fl _ fs wc RS.out ZS.out.1 ZS.out.2.1 ZS.out.2.2 RV.out (by omega) FB.out
        rw [show crashOf Os.fl fs = syncOf E by rw [HSF.out]; exact crash_sync HRS.out (by omega)] at hc
        refine hc.mono ?_
        clear hc
        rintro e y1 ⟨sh, th, rfl, ho1, hb1⟩
        obtain ⟨ph, qh, rfl, -⟩ := id ho1.1.2
        obtain ⟨rh, uh, rfl, -⟩ := id ho1.2.1.2
        have b2 := below_alloc1 y1 (.cells #[.slice ph (syncOf E).sec.length qh, .slice rh (syncOf E).dir.length uh] 26)
        have hb := hb1.trans (b2.mono hb1.size)
        have XH := Lib.hid (bx_new y1 26 #[.slice ph (syncOf E).sec.length qh, .slice rh (syncOf E).dir.length uh])
        have RH := Lib.hid (ho1.rd.below b2 (Nat.le_refl _))
        replace XE := Lib.hid (XE.out.next hb)
        replace RE := Lib.hid (RE.out.below hb (Nat.le_refl _))
        replace XC := Lib.hid (XC.out.next hb)
        replace RC := Lib.hid (RC.out.below hb (Nat.le_refl _))
        replace XS := Lib.hid (XS.out.next hb)
        replace BW := Lib.hid (BW.out.trans (hb.mono BW.out.size))
        clear ho1 hb1 b2 hb RS RV
        go_wp2_with fail
        generalize y1.alloc (.cells #[.slice ph (syncOf E).sec.length qh, .slice rh (syncOf E).dir.length uh] 26) = y2 at *
        generalize y1.heap.size = nh at *
        have hCE : C = crashed E fs := by rw [HC.out]; exact crash_right HRE.out (by omega)
        have HCL := Lib.hid (show C.sec.length = E.sec.length by rw [hCE]; exact crashL_length E fs _)
        have HCD := Lib.hid (show C.dir.length = 0 by rw [hCE]; rfl)
        have HSD := Lib.hid (show Os.fl.dir.length = 0 by rw [HSF.out]; rfl)
        have HSL := Lib.hid (show (syncOf E).sec.length = E.sec.length from syncL_length _ _)
        have ZH := Lib.hid (show FFits (syncOf E) ∧ (∀ s ∈ (syncOf E).sec, s.size ≤ 1048576) ∧ ∀ d ∈ (syncOf E).dir, d.2.size ≤ 1048576 by have h9 := ZS.out; rw [HSF.out] at h9; exact h9)
        have hmost : E.sec.length ≤ 41 := DF3.out.most
        have HLF := Lib.hid (fun i hi => crashL_left HRE.out fs i hi E.dir.length (Nat.le_refl _))
        have HCE := Lib.hid hCE
        clear hCE
        go_loopw [22, 23, 24] (fun i now left wr => FlRel3 E.sec.length y2 i now left wr) (fun i _ _ _ => E.sec.length - (intOf i).toNat)
        case atStart => exact ⟨0, by omega, rfl, Below.refl _ _⟩
        case round =>
          obtain ⟨k, hk, rfl, hb⟩ := hrel
          have XE := Lib.hid (XE.out.next hb)
          have RE := Lib.hid (RE.out.below hb (Nat.le_refl _))
          have XC := Lib.hid (XC.out.next hb)
          have RC := Lib.hid (RC.out.below hb (Nat.le_refl _))
          have XS := Lib.hid (XS.out.next hb)
          have XH := Lib.hid (XH.out.next hb)
          have RH := Lib.hid (RH.out.below hb (Nat.le_refl _))
          have BW := Lib.hid (BW.out.trans (hb.mono BW.out.size))
          have HB := Lib.hid hb
          clear hb
          have xe0 := XE.out.c0
          have xe1 := XE.out.c1
          by_cases hlt : k < E.sec.length
          · have e0 : (k : Int) < (E.sec.length : Int) := by omega
            go_wp2_with fail
            clear xe0 xe1
            have hc := specRead _ _ E (k : Int) wr RE.out DF3.out.fits DF3.out.ss DF3.out.ds
            rw [read_data HRE.out (by omega) (by omega)] at hc
            refine hc.mono ?_
            clear hc
            rintro e y3 ⟨s3, t3, rfl, ho3, hb3⟩
            obtain ⟨p7, q7, rfl, -⟩ := id ho3.1.2
            obtain ⟨r7, u7, rfl, -⟩ := id ho3.2.1.2
            clear ho3
            replace XE := Lib.hid (XE.out.next hb3)
            replace RE := Lib.hid (RE.out.below hb3 (Nat.le_refl _))
            replace XC := Lib.hid (XC.out.next hb3)
            replace RC := Lib.hid (RC.out.below hb3 (Nat.le_refl _))
            replace XH := Lib.hid (XH.out.next hb3)
            replace RH := Lib.hid (RH.out.below hb3 (Nat.le_refl _))
            replace HB := Lib.hid (HB.out.trans (hb3.mono HB.out.size))
            clear hb3
            obtain ⟨now, hnow⟩ : ∃ now, now = getOf E (k : Int) := ⟨_, rfl⟩
            have hleft := HLF.out k hlt
            have hck : C.sec[k]? = some ((crashL E fs E.dir.length).getD k ByteArray.empty) := by
              rw [HCE.out]
              show (crashL E fs E.dir.length)[k]? = _
              rw [List.getD_eq_getElem?_getD, List.getElem?_eq_getElem (by rw [crashL_length]; exact hlt)]; rfl
            obtain ⟨left, hlf⟩ : ∃ left, left = (crashL E fs E.dir.length).getD k ByteArray.empty := ⟨_, rfl⟩
            rw [← hlf] at hleft hck
            unfold LeftOf at hleft
            rw [← hnow] at hleft
            have HNOW := Lib.hid hnow
            simp only
            rw [← hnow]
            clear hnow hlf
            have ff := field_data (.slice p7 E.sec.length q7) (.slice r7 E.dir.length u7) now 0 y3
            have xc0 := XC.out.c0
            have xh0 := XH.out.c0
            have xh1 := XH.out.c1
            have e9 : (k : Int) < (C.sec.length : Int) := by rw [HCL.out]; omega
            obtain ⟨bc, oc, hpc, hlc, hcc⟩ := RC.out.1.get (by rw [HCL.out]; omega)
            subst hpc
            have rc := hcc k (by rw [HCL.out]; omega)
            rw [strs_get? hck] at rc
            clear hcc hck
            have e1 : (0 : Int) ≤ (k : Int) := by omega
            go_wp2_with fail
            clear ff xc0 xh0 xh1 rc
            have hc := implFRead _ _ (syncOf E) (k : Int) y3 RH.out ZH.out.1 ZH.out.2.1 ZH.out.2.2
            rw [read_data HRS.out (by omega) (by rw [HSL.out]; omega), get_sync HRE.out (by omega) (by omega), ← HNOW.out] at hc
            refine hc.mono ?_
            clear hc
            rintro e y4 ⟨s4, t4, rfl, ho4, hb4⟩
            obtain ⟨p8, q8, rfl, -⟩ := id ho4.1.2
            obtain ⟨r8, u8, rfl, -⟩ := id ho4.2.1.2
            clear ho4
            have xe0 := (XE.out.next hb4).c0
            have re4 := (RE.out.below hb4 (Nat.le_refl _)).1
            obtain ⟨be, oe, hpe, hle, hce⟩ := re4.get (by omega)
            subst hpe
            have re := hce k (by omega)
            rw [strs_get? (List.getElem?_eq_getElem hlt)] at re
            clear hce re4
            replace HB := Lib.hid (HB.out.trans (hb4.mono HB.out.size))
            clear hb4
            have ff := field_data (.slice p8 (syncOf E).sec.length q8) (.slice r8 (syncOf E).dir.length u8) now 0 y4
            have hold : E.sec.getD k ByteArray.empty = E.sec[k] := by rw [List.getD_eq_getElem?_getD, List.getElem?_eq_getElem hlt]; rfl
            rw [hold] at hleft
            clear hold
            generalize E.sec[k] = old at *
            cases hq : (left.toList == old.toList) with
            | true =>
              obtain rfl := toList_inj hq
              clear hleft hq
              go_wp2_with fail
              go_roundw
              case rel => exact ⟨k + 1, by omega, by go_num, HB.out⟩
              case measure => simp [intOf]; omega
            | false =>
              obtain ⟨n, hn, hle2⟩ : ∃ n, n ≤ now.size ∧ left = now.extract 0 n := by
                rcases hleft with h9 | h9
                · rw [h9] at hq; simp at hq
                · exact h9
              have hsz : left.size = n := by rw [hle2, ByteArray.size_extract]; omega
              have hex : now.extract 0 left.size = left := by rw [hsz]; exact hle2.symm
              have hls : (left.size : Int) ≤ (now.size : Int) := by omega
              have d5 : decide ((now.size : Int) < (left.size : Int)) = false := decide_eq_false (by omega)
              have hls2 : left.size ≤ now.size := by omega
              clear hleft hle2 hsz hn
              go_wp2_with fail
              go_roundw
              case rel => exact ⟨k + 1, by omega, by go_num, HB.out⟩
              case measure => simp [intOf]; omega
          · obtain rfl : k = E.sec.length := by omega
            have xc1 := XC.out.c1
            have xs1 := XS.out.q1
            rw [HCD.out] at xc1
            rw [HSD.out] at xs1
            go_wp2_with fail
            go_ret
            exact ⟨rfl, BW.out⟩
      · have d9 : (Os.code != 0) = true := by simpa using hsc
        go_wp2_with fail
        go_ret
        exact ⟨rfl, BW.out⟩
end Go.Proofs.Ytkeimgglikdbfaa
