/-
  Part 14 of the proofs of LBackRow, LLabelsRow: what is laid, and what the functions that the law runs answer. Conditions: each theorem names its own.
-/
import Derived.Test.YtgnooffedmeenaaGreatDoorQB13
namespace Go.Proofs.YtgnooffedmeenaaGreatDoor.M.L
open Go.RowKit W

set_option maxRecDepth 100000 in
set_option maxHeartbeats 4000000 in
theorem says0_any (lm : Option Nat) (og : Nat) (ob : Array Value) (bg : Nat) (X : Option Addr) (nx cx : Nat) (Y : Option Addr) (ny cy : Nat) (es : List I.SE) (fs : List I.FE) (w : World) (h : I.ImAt w ⟨X, nx, cx, Y, ny, cy⟩ es fs) (hl : I.LgI ⟨X, nx, cx, Y, ny, cy⟩ es fs) (hL : O.LaidO w) (i : Nat) (hi : i < es.length) :
  Calls Tryz.prog 80 #[.agg #[.slice X nx cx, .slice Y ny cy, .map lm, .func (.func og) #[] ob, .func (.func bg) #[] #[]], .agg #[.int .i64 0, .int .i64 (i : Int), .int .i64 0, .int .i64 0]] w fun e w' => e = .returned (.string (str (joinW (shapeT es[i].2)))) ∧ Keep NoB w w' := by
 have hB := (Blk.new w 72 #[.slice X nx cx, .slice Y ny cy, .map lm, .func (.func og) #[] ob, .func (.func bg) #[] #[]]).alloc (.cells #[.int .i64 0, .int .i64 (i : Int), .int .i64 0, .int .i64 0] 84)
 have hN := Blk.new (w.alloc (.cells #[.slice X nx cx, .slice Y ny cy, .map lm, .func (.func og) #[] ob, .func (.func bg) #[] #[]] 72)) 84 #[.int .i64 0, .int .i64 (i : Int), .int .i64 0, .int .i64 0]
 have k0 := ((Keep.refl NoB w).alloc (.cells #[.slice X nx cx, .slice Y ny cy, .map lm, .func (.func og) #[] ob, .func (.func bg) #[] #[]] 72)).alloc (.cells #[.int .i64 0, .int .i64 (i : Int), .int .i64 0, .int .i64 0] 84)
 rw [World.size_alloc] at hN
 obtain ⟨g, off, hX, hc⟩ := I.shape_at h.rx hi
 have hs := h.hs _ (List.getElem_mem hi)
 have hn := hl.sh _ (List.getElem_mem hi)
 have hx := hl.nx
 have hlx := h.lx
 dsimp only at hlx hX hx
 subst hX
 have hle := S.txt_le es[i].2
 generalize es[i] = se at *
 obtain ⟨⟨A, n, c⟩, l⟩ := se
 dsimp only at *
 have HT := Lib.hid (fun W (hk : Keep NoB w W) (hn : n ≤ 9223372036854775807) => S.showS_any A l n c W (hL.keep hk).lets ((hs.keep hk (fun _ _ => id)).1) hs.2 hn)
 have hsz : (S.shS l).length ≤ 1024 := by
  unfold S.shS
  split
  ·exact hle
  ·exact Nat.zero_le _
 have HX : Hid ((⟨#[115, 104, 97, 112, 101, 32]⟩ : ByteArray) ++ str (S.shS l) = str (joinW (shapeT l))) := lit_app _ _
 rw [← HX.out]
 have hz := str_size (S.shS l)
 have q1 : (str (S.shS l)).size ≤ 1024 := by omega
 have hcw := hc
 have k1c := k0.cell hc id
 have s0 := hB.cell 0
 simp only [List.getElem?_toArray, List.getElem?_cons_zero] at s0
 have n0 := hN.cell 0
 have n1 := hN.cell 1
 simp only [List.getElem?_toArray, List.getElem?_cons_zero, List.getElem?_cons_succ] at n0 n1
 have hlt : (i : Int) < (nx : Int) := by omega
 have hin : i < nx := by omega
 have HT2 := Lib.hid (fun W hk => HT.out W hk (by omega))
 clear HT hB hN h hl hL hs hle hsz HX hz hcw hc hn
 generalize str (S.shS l) = T at *
 go_enter Tryz.func80, Tryz.ntmps80
 go_wp2_with fail
 refine (HT2.out _ k0).mono ?_
 rintro e w1 ⟨rfl, k1⟩
 go_wp2
 go_ret
 exact ⟨rfl, keepN k0 k1⟩

set_option maxRecDepth 100000 in
set_option maxHeartbeats 8000000 in
theorem says2_any (lm : Option Nat) (og : Nat) (ob : Array Value) (bg : Nat) (X : Option Addr) (nx cx : Nat) (Y : Option Addr) (ny cy : Nat) (es : List I.SE) (fs : List I.FE) (w : World) (h : I.ImAt w ⟨X, nx, cx, Y, ny, cy⟩ es fs) (hl : I.LgI ⟨X, nx, cx, Y, ny, cy⟩ es fs) (hL : O.LaidO w) (k : Nat) (hk : k < fs.length) :
  Calls Tryz.prog 80 #[.agg #[.slice X nx cx, .slice Y ny cy, .map lm, .func (.func og) #[] ob, .func (.func bg) #[] #[]], .agg #[.int .i64 2, .int .i64 0, .int .i64 (k : Int), .int .i64 0]] w fun e w' => e = .returned (.string (str (joinW [localW, W.txt fs[k].2.lc]))) ∧ Keep NoB w w' := by
 have hB := (Blk.new w 72 #[.slice X nx cx, .slice Y ny cy, .map lm, .func (.func og) #[] ob, .func (.func bg) #[] #[]]).alloc (.cells #[.int .i64 2, .int .i64 0, .int .i64 (k : Int), .int .i64 0] 84)
 have hN := Blk.new (w.alloc (.cells #[.slice X nx cx, .slice Y ny cy, .map lm, .func (.func og) #[] ob, .func (.func bg) #[] #[]] 72)) 84 #[.int .i64 2, .int .i64 0, .int .i64 (k : Int), .int .i64 0]
 have k0 := ((Keep.refl NoB w).alloc (.cells #[.slice X nx cx, .slice Y ny cy, .map lm, .func (.func og) #[] ob, .func (.func bg) #[] #[]] 72)).alloc (.cells #[.int .i64 2, .int .i64 0, .int .i64 (k : Int), .int .i64 0] 84)
 rw [World.size_alloc] at hN
 obtain ⟨g, off, hY, d0, d1, d2, d3, d4⟩ := I.fun_at h.ry hk
 have hf := h.hf _ (List.getElem_mem hk)
 have hlf := hl.fn _ (List.getElem_mem hk)
 have hly := h.ly
 have hy := hl.ny
 dsimp only at hly hY hy
 subst hY
 generalize fs[k] = fe at *
 obtain ⟨⟨Sg, A, na, ca, B, nb, cb, Lc, nl, cl, D, nd, cd⟩, f⟩ := fe
 dsimp only at *
 have hnl := hlf.nl
 dsimp only at hnl
 have HT := Lib.hid (fun W (hk : Keep NoB w W) => text_any Lc f.lc nl cl W (hL.keep hk).lets (hf.keepN hk).rl hf.ll (by omega))
 have hle := S.txt_le f.lc
 have HX : Hid ((⟨#[108, 111, 99, 97, 108, 32]⟩ : ByteArray) ++ str (W.txt f.lc) = str (joinW [localW, W.txt f.lc])) := lit_app _ _
 rw [← HX.out]
 have hz := str_size (W.txt f.lc)
 have q1 : (str (W.txt f.lc)).size ≤ 1024 := by omega
 generalize str (W.txt f.lc) = T at *
 have e0 := k0.cell d0 id
 have e1 := k0.cell d1 id
 have e2 := k0.cell d2 id
 have e3 := k0.cell d3 id
 have e4 := k0.cell d4 id
 have hlt : (k : Int) < (ny : Int) := by omega
 have hkn : k < ny := by omega
 have s0 := hB.cell 0
 have s1 := hB.cell 1
 simp only [List.getElem?_toArray, List.getElem?_cons_zero, List.getElem?_cons_succ] at s0 s1
 have n0 := hN.cell 0
 have n1 := hN.cell 1
 have n2 := hN.cell 2
 have n3 := hN.cell 3
 simp only [List.getElem?_toArray, List.getElem?_cons_zero, List.getElem?_cons_succ] at n0 n1 n2 n3
 generalize hW0 : (w.alloc (.cells #[.slice X nx cx, .slice (some ⟨g, off, none⟩) ny cy, .map lm, .func (.func og) #[] ob, .func (.func bg) #[] #[]] 72)).alloc (.cells #[.int .i64 2, .int .i64 0, .int .i64 (k : Int), .int .i64 0] 84) = W0 at *
 have hz0 : W0.heap.size = w.heap.size + 1 + 1 := by rw [← hW0]; simp
 have h5 := Blk.new W0 37 #[.string Sg, .slice A na ca, .slice B nb cb, .slice Lc nl cl, .slice D nd cd]
 have k5 := k0.alloc (.cells #[.string Sg, .slice A na ca, .slice B nb cb, .slice Lc nl cl, .slice D nd cd] 37)
 have hN5 := hN.alloc (.cells #[.string Sg, .slice A na ca, .slice B nb cb, .slice Lc nl cl, .slice D nd cd] 37)
 have hB5 := hB.alloc (.cells #[.string Sg, .slice A na ca, .slice B nb cb, .slice Lc nl cl, .slice D nd cd] 37)
 rw [hz0] at h5
 have c0 := h5.cell 0
 have c1 := h5.cell 1
 have c2 := h5.cell 2
 have c3 := h5.cell 3
 have c4 := h5.cell 4
 simp only [List.getElem?_toArray, List.getElem?_cons_zero, List.getElem?_cons_succ] at c0 c1 c2 c3 c4
 have m0 := hN5.cell 0
 have m1 := hN5.cell 1
 have m2 := hN5.cell 2
 have m3 := hN5.cell 3
 simp only [List.getElem?_toArray, List.getElem?_cons_zero, List.getElem?_cons_succ] at m0 m1 m2 m3
 clear h hl hL hf hlf hly hy HX hz hle hB hN d0 d1 d2 d3 d4 h5 hB5 hN5 hnl
 go_enter Tryz.func80, Tryz.ntmps80
 go_wp2_with fail
 refine (HT.out _ k5).mono ?_
 rintro e w1 ⟨rfl, k1⟩
 go_wp2
 go_ret
 exact ⟨rfl, keepN k5 k1⟩

set_option maxRecDepth 100000 in
set_option maxHeartbeats 8000000 in
theorem says3_any (og : Nat) (ob : Array Value) (bg : Nat) (X : Option Addr) (nx cx : Nat) (Y : Option Addr) (ny cy : Nat) (es : List I.SE) (fs : List I.FE) (w : World) (h : I.ImAt w ⟨X, nx, cx, Y, ny, cy⟩ es fs) (hl : I.LgI ⟨X, nx, cx, Y, ny, cy⟩ es fs) (hL : O.LaidO w) (k : Nat) (hk : k < fs.length) (b N n j : Nat) (hj : j ≤ 100000) (hn : n ≤ 100000) (hk1 : k ≤ 100000) (p : I.Im) (hpm : PM b N (labF p) w) (hlb : lbN p k j = some n) :
  Calls Tryz.prog 80 #[.agg #[.slice X nx cx, .slice Y ny cy, .map (some b), .func (.func og) #[] ob, .func (.func bg) #[] #[]], .agg #[.int .i64 3, .int .i64 0, .int .i64 (k : Int), .int .i64 (j : Int)]] w fun e w' => e = .returned (.string (str (lbl ((n : Nat) : Int) ++ [58]))) ∧ Keep NoB w w' := by
 have hB := (Blk.new w 72 #[.slice X nx cx, .slice Y ny cy, .map (some b), .func (.func og) #[] ob, .func (.func bg) #[] #[]]).alloc (.cells #[.int .i64 3, .int .i64 0, .int .i64 (k : Int), .int .i64 (j : Int)] 84)
 have hN := Blk.new (w.alloc (.cells #[.slice X nx cx, .slice Y ny cy, .map (some b), .func (.func og) #[] ob, .func (.func bg) #[] #[]] 72)) 84 #[.int .i64 3, .int .i64 0, .int .i64 (k : Int), .int .i64 (j : Int)]
 have k0 := ((Keep.refl NoB w).alloc (.cells #[.slice X nx cx, .slice Y ny cy, .map (some b), .func (.func og) #[] ob, .func (.func bg) #[] #[]] 72)).alloc (.cells #[.int .i64 3, .int .i64 0, .int .i64 (k : Int), .int .i64 (j : Int)] 84)
 rw [World.size_alloc] at hN
 obtain ⟨g, off, hY, d0, d1, d2, d3, d4⟩ := I.fun_at h.ry hk
 have hf := h.hf _ (List.getElem_mem hk)
 have hlf := hl.fn _ (List.getElem_mem hk)
 have hly := h.ly
 have hy := hl.ny
 dsimp only at hly hY hy
 subst hY
 generalize fs[k] = fe at *
 obtain ⟨⟨Sg, A, na, ca, B, nb, cb, Lc, nl, cl, D, nd, cd⟩, f⟩ := fe
 dsimp only at *
 have HLb := Lib.hid (fun W (hk : Keep NoB w W) => label_any n W hn (hL.keep hk).lib)
 have HLk : Hid (∀ W, Keep NoB w W → (Instr.lookup 69 (.map (some b)) (.agg #[.int .i64 (k : Int), .int .i64 (j : Int)]) false).run Tryz.prog W = .ok (.int .i64 (n : Int)) W) := by
  intro W hk
  have h1 := pm_look (hpm.keep hk id) k j (by omega) (by omega)
  rw [labF_nat, hlb] at h1
  exact h1
 have hle := Lib.itoa_length_le (n : Int) (by omega) (by omega)
 have HX : Hid (str (lbl ((n : Nat) : Int)) ++ (⟨#[58]⟩ : ByteArray) = str (lbl ((n : Nat) : Int) ++ [58])) := app_lit _ _
 rw [← HX.out]
 have hz := str_size (lbl ((n : Nat) : Int))
 have q1 : (str (lbl ((n : Nat) : Int))).size ≤ 22 := by unfold lbl at hz ⊢; simp at hz ⊢; omega
 generalize str (lbl ((n : Nat) : Int)) = T at *
 have e0 := k0.cell d0 id
 have e1 := k0.cell d1 id
 have e2 := k0.cell d2 id
 have e3 := k0.cell d3 id
 have e4 := k0.cell d4 id
 have hlt : (k : Int) < (ny : Int) := by omega
 have hkn : k < ny := by omega
 have s0 := hB.cell 0
 have s1 := hB.cell 1
 simp only [List.getElem?_toArray, List.getElem?_cons_zero, List.getElem?_cons_succ] at s0 s1
 have n0 := hN.cell 0
 have n1 := hN.cell 1
 have n2 := hN.cell 2
 have n3 := hN.cell 3
 simp only [List.getElem?_toArray, List.getElem?_cons_zero, List.getElem?_cons_succ] at n0 n1 n2 n3
 generalize hW0 : (w.alloc (.cells #[.slice X nx cx, .slice (some ⟨g, off, none⟩) ny cy, .map (some b), .func (.func og) #[] ob, .func (.func bg) #[] #[]] 72)).alloc (.cells #[.int .i64 3, .int .i64 0, .int .i64 (k : Int), .int .i64 (j : Int)] 84) = W0 at *
 have hz0 : W0.heap.size = w.heap.size + 1 + 1 := by rw [← hW0]; simp
 have h5 := Blk.new W0 37 #[.string Sg, .slice A na ca, .slice B nb cb, .slice Lc nl cl, .slice D nd cd]
 have k5 := k0.alloc (.cells #[.string Sg, .slice A na ca, .slice B nb cb, .slice Lc nl cl, .slice D nd cd] 37)
 have hN5 := hN.alloc (.cells #[.string Sg, .slice A na ca, .slice B nb cb, .slice Lc nl cl, .slice D nd cd] 37)
 have hB5 := hB.alloc (.cells #[.string Sg, .slice A na ca, .slice B nb cb, .slice Lc nl cl, .slice D nd cd] 37)
 rw [hz0] at h5
 have c0 := h5.cell 0
 have c1 := h5.cell 1
 have c2 := h5.cell 2
 have c3 := h5.cell 3
 have c4 := h5.cell 4
 simp only [List.getElem?_toArray, List.getElem?_cons_zero, List.getElem?_cons_succ] at c0 c1 c2 c3 c4
 have m0 := hN5.cell 0
 have m1 := hN5.cell 1
 have m2 := hN5.cell 2
 have m3 := hN5.cell 3
 simp only [List.getElem?_toArray, List.getElem?_cons_zero, List.getElem?_cons_succ] at m0 m1 m2 m3
 have s2 := hB5.cell 2
 simp only [List.getElem?_toArray, List.getElem?_cons_zero, List.getElem?_cons_succ] at s2
 have hlk := HLk.out _ k5
 clear h hl hL hf hlf hly hy HX hz hle hB hN d0 d1 d2 d3 d4 h5 hB5 hN5 hpm hlb HLk
 go_enter Tryz.func80, Tryz.ntmps80
 go_wp2_with fail
 refine (HLb.out _ k5).mono ?_
 rintro e w1 ⟨rfl, k1⟩
 go_wp2
 go_ret
 exact ⟨rfl, keepN k5 k1⟩

def SSy1 (b5 : Nat) (Sg : ByteArray) (A : Option Addr) (na ca : Nat) (B : Option Addr) (nb cb : Nat) (T : ByteArray) : Nat → Value → World → Prop
 | 0 => fun u _ => u = .pointer (some ⟨b5, 0, none⟩)
 | 1 => fun u _ => u = .string Sg
 | 2 => fun u _ => u = .string ((⟨#[102, 117, 110, 99, 32]⟩ : ByteArray) ++ Sg)
 | 3 => fun u _ => u = .string ((⟨#[102, 117, 110, 99, 32]⟩ : ByteArray) ++ Sg ++ (⟨#[32]⟩ : ByteArray))
 | 4 => fun u _ => u = .pointer (some ⟨b5, 1, none⟩)
 | 5 => fun u _ => u = .agg #[.slice A na ca, .slice B nb cb]
 | 6 => fun u _ => u = .string T
 | 7 => fun u _ => u = .string ((⟨#[102, 117, 110, 99, 32]⟩ : ByteArray) ++ Sg ++ (⟨#[32]⟩ : ByteArray) ++ T)
 | 8 => fun u _ => u = .string ((⟨#[102, 117, 110, 99, 32]⟩ : ByteArray) ++ Sg ++ (⟨#[32]⟩ : ByteArray) ++ T)
 | _ => fun _ _ => True
theorem SSy1_stable (b5 : Nat) (Sg : ByteArray) (A : Option Addr) (na ca : Nat) (B : Option Addr) (nb cb : Nat) (T : ByteArray) (i : Nat) (u : Value) (W W' : World) (h : SSy1 b5 Sg A na ca B nb cb T i u W) (_hk : Keep NoB W W') : SSy1 b5 Sg A na ca B nb cb T i u W' := by
 unfold SSy1 at h ⊢
 split at h <;> exact h

set_option maxRecDepth 100000 in
set_option maxHeartbeats 8000000 in
theorem says1_any (lm : Option Nat) (og : Nat) (ob : Array Value) (bg : Nat) (X : Option Addr) (nx cx : Nat) (Y : Option Addr) (ny cy : Nat) (es : List I.SE) (fs : List I.FE) (w : World) (h : I.ImAt w ⟨X, nx, cx, Y, ny, cy⟩ es fs) (hl : I.LgI ⟨X, nx, cx, Y, ny, cy⟩ es fs) (hL : O.LaidO w) (k : Nat) (hk : k < fs.length) (hnm : fs[k].2.nm.length ≤ 32) :
  Calls Tryz.prog 80 #[.agg #[.slice X nx cx, .slice Y ny cy, .map lm, .func (.func og) #[] ob, .func (.func bg) #[] #[]], .agg #[.int .i64 1, .int .i64 0, .int .i64 (k : Int), .int .i64 0]] w fun e w' => e = .returned (.string (str (joinW [funcW, fs[k].2.nm, S.shG fs[k].2.ar fs[k].2.rs]))) ∧ Keep NoB w w' := by
 have hB := (Blk.new w 72 #[.slice X nx cx, .slice Y ny cy, .map lm, .func (.func og) #[] ob, .func (.func bg) #[] #[]]).alloc (.cells #[.int .i64 1, .int .i64 0, .int .i64 (k : Int), .int .i64 0] 84)
 have hN := Blk.new (w.alloc (.cells #[.slice X nx cx, .slice Y ny cy, .map lm, .func (.func og) #[] ob, .func (.func bg) #[] #[]] 72)) 84 #[.int .i64 1, .int .i64 0, .int .i64 (k : Int), .int .i64 0]
 have k0 := ((Keep.refl NoB w).alloc (.cells #[.slice X nx cx, .slice Y ny cy, .map lm, .func (.func og) #[] ob, .func (.func bg) #[] #[]] 72)).alloc (.cells #[.int .i64 1, .int .i64 0, .int .i64 (k : Int), .int .i64 0] 84)
 rw [World.size_alloc] at hN
 obtain ⟨g, off, hY, d0, d1, d2, d3, d4⟩ := I.fun_at h.ry hk
 have hf := h.hf _ (List.getElem_mem hk)
 have hlf := hl.fn _ (List.getElem_mem hk)
 have hly := h.ly
 have hy := hl.ny
 dsimp only at hly hY hy
 subst hY
 generalize fs[k] = fe at *
 obtain ⟨⟨Sg, A, na, ca, B, nb, cb, Lc, nl, cl, D, nd, cd⟩, f⟩ := fe
 dsimp only at *
 have hna := hlf.na
 have hnb := hlf.nb
 dsimp only at hna hnb
 have HT := Lib.hid (fun W (hk : Keep NoB w W) => S.showG_any A f.ar na ca B f.rs nb cb W (hL.keep hk).lets (hf.keepN hk).ra (hf.keepN hk).rb hf.la hf.lb (by omega) (by omega))
 have hle : (S.shG f.ar f.rs).length ≤ 2100 := by
  have ha := S.txt_le f.ar
  have hb := S.txt_le f.rs
  unfold S.shG
  split <;> simp <;> omega
 have hSg : Sg = str f.nm := str_of hf.nm
 have HX : Hid ((⟨#[102, 117, 110, 99, 32]⟩ : ByteArray) ++ Sg ++ (⟨#[32]⟩ : ByteArray) ++ str (S.shG f.ar f.rs) = str (joinW [funcW, f.nm, S.shG f.ar f.rs])) := by
  show _ = _
  rw [hSg, lit_app, app_lit, str_app]
  show str _ = str (funcW ++ 32 :: (f.nm ++ 32 :: S.shG f.ar f.rs))
  simp [funcW]
 rw [← HX.out]
 have hz := str_size (S.shG f.ar f.rs)
 have q1 : (str (S.shG f.ar f.rs)).size ≤ 2100 := by omega
 have q2 : Sg.size ≤ 32 := by rw [size_of hf.nm]; exact hnm
 generalize str (S.shG f.ar f.rs) = T at *
 have u1 : ¬ 9223372036854775807 < 5 + Sg.size := by omega
 have u2 : ¬ 9223372036854775807 < 5 + Sg.size + 1 := by omega
 have u3 : ¬ 9223372036854775807 < 5 + Sg.size + 1 + T.size := by omega
 have e0 := k0.cell d0 id
 have e1 := k0.cell d1 id
 have e2 := k0.cell d2 id
 have e3 := k0.cell d3 id
 have e4 := k0.cell d4 id
 have hlt : (k : Int) < (ny : Int) := by omega
 have hkn : k < ny := by omega
 have s0 := hB.cell 0
 have s1 := hB.cell 1
 simp only [List.getElem?_toArray, List.getElem?_cons_zero, List.getElem?_cons_succ] at s0 s1
 have n0 := hN.cell 0
 have n1 := hN.cell 1
 have n2 := hN.cell 2
 have n3 := hN.cell 3
 simp only [List.getElem?_toArray, List.getElem?_cons_zero, List.getElem?_cons_succ] at n0 n1 n2 n3
 generalize hW0 : (w.alloc (.cells #[.slice X nx cx, .slice (some ⟨g, off, none⟩) ny cy, .map lm, .func (.func og) #[] ob, .func (.func bg) #[] #[]] 72)).alloc (.cells #[.int .i64 1, .int .i64 0, .int .i64 (k : Int), .int .i64 0] 84) = W0 at *
 have hz0 : W0.heap.size = w.heap.size + 1 + 1 := by rw [← hW0]; simp
 have h5 := Blk.new W0 37 #[.string Sg, .slice A na ca, .slice B nb cb, .slice Lc nl cl, .slice D nd cd]
 have k5 := k0.alloc (.cells #[.string Sg, .slice A na ca, .slice B nb cb, .slice Lc nl cl, .slice D nd cd] 37)
 have hN5 := hN.alloc (.cells #[.string Sg, .slice A na ca, .slice B nb cb, .slice Lc nl cl, .slice D nd cd] 37)
 have hB5 := hB.alloc (.cells #[.string Sg, .slice A na ca, .slice B nb cb, .slice Lc nl cl, .slice D nd cd] 37)
 rw [hz0] at h5
 have c0 := h5.cell 0
 have c1 := h5.cell 1
 have c2 := h5.cell 2
 have c3 := h5.cell 3
 have c4 := h5.cell 4
 simp only [List.getElem?_toArray, List.getElem?_cons_zero, List.getElem?_cons_succ] at c0 c1 c2 c3 c4
 have m0 := hN5.cell 0
 have m1 := hN5.cell 1
 have m2 := hN5.cell 2
 have m3 := hN5.cell 3
 simp only [List.getElem?_toArray, List.getElem?_cons_zero, List.getElem?_cons_succ] at m0 m1 m2 m3
 clear h hl hL hf hlf hly hy HX hz hle hB hN d0 d1 d2 d3 d4 h5 hB5 hN5 hna hnb hnm hSg
 go_enter Tryz.func80, Tryz.ntmps80
 go_wp2_with fail
 generalize hW5 : W0.alloc (.cells #[.string Sg, .slice A na ca, .slice B nb cb, .slice Lc nl cl, .slice D nd cd] 37) = W5 at *
 clear hW5
 refine wp_region_tail (fun i => [30, 31, 32, 33, 34, 35, 36, 37, 4].getD i 0) 9 (by kernel_rfl) (by kernel_rfl) (by kernel_rfl) (by kernel_rfl) (by kernel_rfl) (SSy1 (w.heap.size + 1 + 1) Sg A na ca B nb cb T) (fun i u x y h hk => SSy1_stable _ _ _ _ _ _ _ _ _ i u x y h hk) rfl ?step ?fin
 case step =>
  intro i o a w' hoo hi hF hK hA
  by_cases h0 : i = 0
  ·subst h0
   simp only [List.getElem?_toArray, List.getElem?_cons_zero, Option.some.injEq] at hoo
   subst hoo
   have e5 : a.tmps.getD 5 undef = .pointer (some ⟨w.heap.size + 1 + 1, 0, none⟩) := hF.2.2 5 (by decide)
   refine Does.plain rfl ?_
   unfold yieldsK
   go_simp
   exact ⟨rfl, Keep.refl _ _⟩
  by_cases h1 : i = 1
  ·subst h1
   simp only [List.getElem?_toArray, List.getElem?_cons_zero, List.getElem?_cons_succ, Option.some.injEq] at hoo
   subst hoo
   have e30 : a.tmps.getD 30 undef = .pointer (some ⟨w.heap.size + 1 + 1, 0, none⟩) := hA ⟨0, .data⟩ (by simp) rfl
   have z0 := Keep.cell hK c0 id
   refine Does.plain rfl ?_
   unfold yieldsK
   go_simp
   exact ⟨rfl, Keep.refl _ _⟩
  by_cases h2 : i = 2
  ·subst h2
   simp only [List.getElem?_toArray, List.getElem?_cons_zero, List.getElem?_cons_succ, Option.some.injEq] at hoo
   subst hoo
   have e31 : a.tmps.getD 31 undef = .string Sg := hA ⟨1, .data⟩ (by simp) rfl
   refine Does.plain rfl ?_
   unfold yieldsK
   go_simp
   exact ⟨rfl, Keep.refl _ _⟩
  by_cases h3 : i = 3
  ·subst h3
   simp only [List.getElem?_toArray, List.getElem?_cons_zero, List.getElem?_cons_succ, Option.some.injEq] at hoo
   subst hoo
   have e32 : a.tmps.getD 32 undef = .string ((⟨#[102, 117, 110, 99, 32]⟩ : ByteArray) ++ Sg) := hA ⟨2, .data⟩ (by simp) rfl
   refine Does.plain rfl ?_
   unfold yieldsK
   go_simp
   exact ⟨rfl, Keep.refl _ _⟩
  by_cases h4 : i = 4
  ·subst h4
   simp only [List.getElem?_toArray, List.getElem?_cons_zero, List.getElem?_cons_succ, Option.some.injEq] at hoo
   subst hoo
   have e5 : a.tmps.getD 5 undef = .pointer (some ⟨w.heap.size + 1 + 1, 0, none⟩) := hF.2.2 5 (by decide)
   refine Does.plain rfl ?_
   unfold yieldsK
   go_simp
   exact ⟨rfl, Keep.refl _ _⟩
  by_cases h5 : i = 5
  ·subst h5
   simp only [List.getElem?_toArray, List.getElem?_cons_zero, List.getElem?_cons_succ, Option.some.injEq] at hoo
   subst hoo
   have e34 : a.tmps.getD 34 undef = .pointer (some ⟨w.heap.size + 1 + 1, 1, none⟩) := hA ⟨4, .data⟩ (by simp) rfl
   have z1 := Keep.cell hK c1 id
   have z2 := Keep.cell hK c2 id
   refine Does.plain rfl ?_
   unfold yieldsK
   go_simp
   exact ⟨rfl, Keep.refl _ _⟩
  by_cases h6 : i = 6
  ·subst h6
   simp only [List.getElem?_toArray, List.getElem?_cons_zero, List.getElem?_cons_succ, Option.some.injEq] at hoo
   subst hoo
   have e35 : a.tmps.getD 35 undef = (.agg #[.slice A na ca, .slice B nb cb] : Value) := hA ⟨5, .data⟩ (by simp) rfl
   refine Does.plain rfl ?_
   unfold yieldsK
   go_simp
   refine (HT.out w' (keepN k5 hK)).mono ?_
   rintro e w9 ⟨rfl, hk9⟩
   exact ⟨_, rfl, rfl, hk9⟩
  by_cases h7 : i = 7
  ·subst h7
   simp only [List.getElem?_toArray, List.getElem?_cons_zero, List.getElem?_cons_succ, Option.some.injEq] at hoo
   subst hoo
   have e33 : a.tmps.getD 33 undef = .string ((⟨#[102, 117, 110, 99, 32]⟩ : ByteArray) ++ Sg ++ (⟨#[32]⟩ : ByteArray)) := hA ⟨3, .data⟩ (by simp) rfl
   have e36 : a.tmps.getD 36 undef = .string T := hA ⟨6, .data⟩ (by simp) rfl
   refine Does.plain rfl ?_
   unfold yieldsK
   go_simp
   exact ⟨rfl, Keep.refl _ _⟩
  by_cases h8 : i = 8
  ·subst h8
   simp only [List.getElem?_toArray, List.getElem?_cons_zero, List.getElem?_cons_succ, Option.some.injEq] at hoo
   subst hoo
   have e37 : a.tmps.getD 37 undef = .string ((⟨#[102, 117, 110, 99, 32]⟩ : ByteArray) ++ Sg ++ (⟨#[32]⟩ : ByteArray) ++ T) := hA ⟨7, .data⟩ (by simp) rfl
   refine Does.plain rfl ?_
   unfold yieldsK
   go_simp
   exact ⟨rfl, Keep.refl _ _⟩
  omega
 case fin =>
  intro a w' hF gK hA
  have e4 : a.tmps.getD 4 undef = .string ((⟨#[102, 117, 110, 99, 32]⟩ : ByteArray) ++ Sg ++ (⟨#[32]⟩ : ByteArray) ++ T) := hA 8 (by decide)
  have ha := frameD_list (l := [30, 31, 32, 33, 34, 35, 36, 37, 4]) rfl hF
  rw [ha]
  simp only [List.map_cons, List.map_nil, e4]
  generalize a.tmps.getD 30 undef = u0
  generalize a.tmps.getD 31 undef = u1
  generalize a.tmps.getD 32 undef = u2
  generalize a.tmps.getD 33 undef = u3
  generalize a.tmps.getD 34 undef = u4
  generalize a.tmps.getD 35 undef = u5
  generalize a.tmps.getD 36 undef = u6
  generalize a.tmps.getD 37 undef = u7
  simp only [fillD, List.setIfInBounds_toArray, List.set_cons_zero, List.set_cons_succ]
  simp only [List.drop_succ_cons, List.drop_zero]
  go_wp2
  go_ret
  exact ⟨rfl, keepN k5 gK⟩

def SSy4 (b2 b3 b5 : Nat) (sc : Value) (bg k j : Nat) (gd od nd cd : Nat) (x : Value) (T U : ByteArray) : Nat → Value → World → Prop
 | 0 => fun u _ => u = sc
 | 1 => fun u _ => u = .pointer (some ⟨b3, 2, none⟩)
 | 2 => fun u _ => u = .pointer (some ⟨b3, 2, none⟩)
 | 3 => fun u _ => u = .int .i64 (k : Int)
 | 4 => fun u _ => u = .pointer (some ⟨b5, 4, none⟩)
 | 5 => fun u _ => u = .slice (some ⟨gd, od, none⟩) nd cd
 | 6 => fun u _ => u = .pointer (some ⟨b3, 2, none⟩)
 | 7 => fun u _ => u = .pointer (some ⟨b3, 3, none⟩)
 | 8 => fun u _ => u = .int .i64 (j : Int)
 | 9 => fun u _ => u = .pointer (some ⟨gd, od + j * 3, none⟩)
 | 10 => fun u _ => u = x
 | 11 => fun u _ => u = .string T
 | 12 => fun u _ => u = .pointer (some ⟨b2, 4, none⟩)
 | 13 => fun u _ => u = .func (.func bg) #[] #[]
 | 14 => fun u _ => u = .pointer (some ⟨b3, 2, none⟩)
 | 15 => fun u _ => u = .pointer (some ⟨b3, 3, none⟩)
 | 16 => fun u _ => u = .int .i64 (j : Int)
 | 17 => fun u _ => u = .string U
 | 18 => fun u _ => u = .string (T ++ U)
 | 19 => fun u _ => u = .string (T ++ U)
 | _ => fun _ _ => True
theorem SSy4_stable (b2 b3 b5 : Nat) (sc : Value) (bg k j : Nat) (gd od nd cd : Nat) (x : Value) (T U : ByteArray) (i : Nat) (u : Value) (W W' : World) (h : SSy4 b2 b3 b5 sc bg k j gd od nd cd x T U i u W) (_hk : Keep NoB W W') : SSy4 b2 b3 b5 sc bg k j gd od nd cd x T U i u W' := by
 unfold SSy4 at h ⊢
 split at h <;> exact h

set_option maxRecDepth 100000 in
set_option maxHeartbeats 8000000 in
theorem says4_any (lm : Option Nat) (og : Nat) (ob : Array Value) (bg : Nat) (X : Option Addr) (nx cx : Nat) (Y : Option Addr) (ny cy : Nat) (es : List I.SE) (fs : List I.FE) (w : World) (h : I.ImAt w ⟨X, nx, cx, Y, ny, cy⟩ es fs) (hl : I.LgI ⟨X, nx, cx, Y, ny, cy⟩ es fs) (k : Nat) (hk : k < fs.length) (j : Nat) (hj : j < fs[k].2.bd.length) (TI TB : Bs) (hI1 : TI.length ≤ 100) (hB1 : TB.length ≤ 100) (HIns0 : Hid (∀ W, Keep NoB w W → Calls Tryz.prog 147 #[.agg #[.slice X nx cx, .slice Y ny cy, .map lm, .func (.func og) #[] ob, .func (.func bg) #[] #[]], .int .i64 (k : Int), O.instV fs[k].2.bd[j].1 fs[k].2.bd[j].2.1 fs[k].2.bd[j].2.2] W fun e w' => e = .returned (.string (str TI)) ∧ Keep NoB W w')) (HBh0 : Hid (∀ W, Keep NoB w W → Calls Tryz.prog bg #[.int .i64 (j : Int)] W fun e w' => e = .returned (.string (str TB)) ∧ Keep NoB W w')) (eg : ∀ args w, (callFunc bg args).run Tryz.prog w = .ok (.enter bg args) w) :
  Calls Tryz.prog 80 #[.agg #[.slice X nx cx, .slice Y ny cy, .map lm, .func (.func og) #[] ob, .func (.func bg) #[] #[]], .agg #[.int .i64 4, .int .i64 0, .int .i64 (k : Int), .int .i64 (j : Int)]] w fun e w' => e = .returned (.string (str (TI ++ TB))) ∧ Keep NoB w w' := by
 have hB := (Blk.new w 72 #[.slice X nx cx, .slice Y ny cy, .map lm, .func (.func og) #[] ob, .func (.func bg) #[] #[]]).alloc (.cells #[.int .i64 4, .int .i64 0, .int .i64 (k : Int), .int .i64 (j : Int)] 84)
 have hN := Blk.new (w.alloc (.cells #[.slice X nx cx, .slice Y ny cy, .map lm, .func (.func og) #[] ob, .func (.func bg) #[] #[]] 72)) 84 #[.int .i64 4, .int .i64 0, .int .i64 (k : Int), .int .i64 (j : Int)]
 have k0 := ((Keep.refl NoB w).alloc (.cells #[.slice X nx cx, .slice Y ny cy, .map lm, .func (.func og) #[] ob, .func (.func bg) #[] #[]] 72)).alloc (.cells #[.int .i64 4, .int .i64 0, .int .i64 (k : Int), .int .i64 (j : Int)] 84)
 rw [World.size_alloc] at hN
 obtain ⟨g, off, hY, d0, d1, d2, d3, d4⟩ := I.fun_at h.ry hk
 have hf := h.hf _ (List.getElem_mem hk)
 have hlf := hl.fn _ (List.getElem_mem hk)
 have hly := h.ly
 have hy := hl.ny
 dsimp only at hly hY hy
 subst hY
 generalize fs[k] = fe at *
 obtain ⟨⟨Sg, A, na, ca, B, nb, cb, Lc, nl, cl, D, nd, cd⟩, f⟩ := fe
 dsimp only at *
 have hnd := hlf.nd
 dsimp only at hnd
 obtain ⟨gd, od, hD, hcd⟩ := C.rdJ_at hf.rd (Nat.lt_of_le_of_lt (Nat.zero_le _) hj)
 obtain ⟨j0, j1, j2⟩ := hcd j hj
 have hld := hf.ld
 dsimp only at hD
 subst hD
 have i0 := k0.cell j0 id
 have i1 := k0.cell j1 id
 have i2 := k0.cell j2 id
 clear hcd j0 j1 j2
 generalize f.bd[j] = x at *
 obtain ⟨op, aa, cc⟩ := x
 dsimp only [O.instV] at *
 have hjn : j < nd := by rw [← hld]; exact hj
 have hji : (j : Int) < (nd : Int) := by omega
 have HX : Hid (str TI ++ str TB = str (TI ++ TB)) := str_app _ _
 rw [← HX.out]
 have hz1 := str_size TI
 have hz2 := str_size TB
 have HIns := HIns0
 have HBh := HBh0
 have q1 : (str TI).size ≤ 100 := by omega
 have q2 : (str TB).size ≤ 100 := by omega
 generalize str TI = T at *
 generalize str TB = U at *
 have u1 : ¬ 9223372036854775807 < T.size + U.size := by omega
 have e0 := k0.cell d0 id
 have e1 := k0.cell d1 id
 have e2 := k0.cell d2 id
 have e3 := k0.cell d3 id
 have e4 := k0.cell d4 id
 have hlt : (k : Int) < (ny : Int) := by omega
 have hkn : k < ny := by omega
 have s0 := hB.cell 0
 have s1 := hB.cell 1
 simp only [List.getElem?_toArray, List.getElem?_cons_zero, List.getElem?_cons_succ] at s0 s1
 have n0 := hN.cell 0
 have n1 := hN.cell 1
 have n2 := hN.cell 2
 have n3 := hN.cell 3
 simp only [List.getElem?_toArray, List.getElem?_cons_zero, List.getElem?_cons_succ] at n0 n1 n2 n3
 generalize hW0 : (w.alloc (.cells #[.slice X nx cx, .slice (some ⟨g, off, none⟩) ny cy, .map lm, .func (.func og) #[] ob, .func (.func bg) #[] #[]] 72)).alloc (.cells #[.int .i64 4, .int .i64 0, .int .i64 (k : Int), .int .i64 (j : Int)] 84) = W0 at *
 have hz0 : W0.heap.size = w.heap.size + 1 + 1 := by rw [← hW0]; simp
 have h5 := Blk.new W0 37 #[.string Sg, .slice A na ca, .slice B nb cb, .slice Lc nl cl, .slice (some ⟨gd, od, none⟩) nd cd]
 have k5 := k0.alloc (.cells #[.string Sg, .slice A na ca, .slice B nb cb, .slice Lc nl cl, .slice (some ⟨gd, od, none⟩) nd cd] 37)
 have hN5 := hN.alloc (.cells #[.string Sg, .slice A na ca, .slice B nb cb, .slice Lc nl cl, .slice (some ⟨gd, od, none⟩) nd cd] 37)
 have hB5 := hB.alloc (.cells #[.string Sg, .slice A na ca, .slice B nb cb, .slice Lc nl cl, .slice (some ⟨gd, od, none⟩) nd cd] 37)
 rw [hz0] at h5
 have c0 := h5.cell 0
 have c1 := h5.cell 1
 have c2 := h5.cell 2
 have c3 := h5.cell 3
 have c4 := h5.cell 4
 simp only [List.getElem?_toArray, List.getElem?_cons_zero, List.getElem?_cons_succ] at c0 c1 c2 c3 c4
 have m0 := hN5.cell 0
 have m1 := hN5.cell 1
 have m2 := hN5.cell 2
 have m3 := hN5.cell 3
 simp only [List.getElem?_toArray, List.getElem?_cons_zero, List.getElem?_cons_succ] at m0 m1 m2 m3
 have i0 := (Keep.refl NoB W0).alloc (.cells #[.string Sg, .slice A na ca, .slice B nb cb, .slice Lc nl cl, .slice (some ⟨gd, od, none⟩) nd cd] 37) |>.cell i0 id
 have i1 := (Keep.refl NoB W0).alloc (.cells #[.string Sg, .slice A na ca, .slice B nb cb, .slice Lc nl cl, .slice (some ⟨gd, od, none⟩) nd cd] 37) |>.cell i1 id
 have i2 := (Keep.refl NoB W0).alloc (.cells #[.string Sg, .slice A na ca, .slice B nb cb, .slice Lc nl cl, .slice (some ⟨gd, od, none⟩) nd cd] 37) |>.cell i2 id
 have s0 := hB5.cell 0
 have s1 := hB5.cell 1
 have s2 := hB5.cell 2
 have s3 := hB5.cell 3
 have s4 := hB5.cell 4
 simp only [List.getElem?_toArray, List.getElem?_cons_zero, List.getElem?_cons_succ] at s0 s1 s2 s3 s4
 clear h hl hf hlf hly hy HX hz1 hz2 hB hN d0 d1 d2 d3 d4 h5 hB5 hN5 hnd hld HIns0 HBh0 hI1 hB1 hj
 go_enter Tryz.func80, Tryz.ntmps80
 go_wp2_with fail
 generalize hW5 : W0.alloc (.cells #[.string Sg, .slice A na ca, .slice B nb cb, .slice Lc nl cl, .slice (some ⟨gd, od, none⟩) nd cd] 37) = W5 at *
 clear hW5
 refine wp_region_tail (fun i => [53, 54, 55, 56, 57, 58, 59, 60, 61, 62, 63, 64, 65, 66, 67, 68, 69, 70, 71, 4].getD i 0) 20 (by kernel_rfl) (by kernel_rfl) (by kernel_rfl) (by kernel_rfl) (by kernel_rfl) (SSy4 w.heap.size (w.heap.size + 1) (w.heap.size + 1 + 1) (.agg #[.slice X nx cx, .slice (some ⟨g, off, none⟩) ny cy, .map lm, .func (.func og) #[] ob, .func (.func bg) #[] #[]]) bg k j gd od nd cd (.agg #[.int .i64 op, .int .i64 aa, .int .i64 cc]) T U) (fun i u x y h hk => SSy4_stable _ _ _ _ _ _ _ _ _ _ _ _ _ _ i u x y h hk) rfl ?step ?fin
 case step =>
  intro i o a w' hoo hi hF hK hA
  by_cases h0 : i = 0
  ·subst h0
   simp only [List.getElem?_toArray, List.getElem?_cons_zero, Option.some.injEq] at hoo
   subst hoo
   have e2 : a.tmps.getD 2 undef = .pointer (some ⟨w.heap.size, 0, none⟩) := hF.2.2 2 (by decide)
   have z0 := Keep.cell hK s0 id
   have z1 := Keep.cell hK s1 id
   have z2 := Keep.cell hK s2 id
   have z3 := Keep.cell hK s3 id
   have z4 := Keep.cell hK s4 id
   refine Does.plain rfl ?_
   unfold yieldsK
   go_simp
   exact ⟨rfl, Keep.refl _ _⟩
  by_cases h1 : i = 1
  ·subst h1
   simp only [List.getElem?_toArray, List.getElem?_cons_zero, List.getElem?_cons_succ, Option.some.injEq] at hoo
   subst hoo
   have e3 : a.tmps.getD 3 undef = .pointer (some ⟨w.heap.size + 1, 0, none⟩) := hF.2.2 3 (by decide)
   refine Does.plain rfl ?_
   unfold yieldsK
   go_simp
   exact ⟨rfl, Keep.refl _ _⟩
  by_cases h2 : i = 2
  ·subst h2
   simp only [List.getElem?_toArray, List.getElem?_cons_zero, List.getElem?_cons_succ, Option.some.injEq] at hoo
   subst hoo
   have e54 : a.tmps.getD 54 undef = .pointer (some ⟨w.heap.size + 1, 2, none⟩) := hA ⟨1, .data⟩ (by simp) rfl
   refine Does.plain rfl ?_
   unfold yieldsK
   go_simp
   exact ⟨rfl, Keep.refl _ _⟩
  by_cases h3 : i = 3
  ·subst h3
   simp only [List.getElem?_toArray, List.getElem?_cons_zero, List.getElem?_cons_succ, Option.some.injEq] at hoo
   subst hoo
   have e55 : a.tmps.getD 55 undef = .pointer (some ⟨w.heap.size + 1, 2, none⟩) := hA ⟨2, .data⟩ (by simp) rfl
   have z2 := Keep.cell hK m2 id
   refine Does.plain rfl ?_
   unfold yieldsK
   go_simp
   exact ⟨rfl, Keep.refl _ _⟩
  by_cases h4 : i = 4
  ·subst h4
   simp only [List.getElem?_toArray, List.getElem?_cons_zero, List.getElem?_cons_succ, Option.some.injEq] at hoo
   subst hoo
   have e5 : a.tmps.getD 5 undef = .pointer (some ⟨w.heap.size + 1 + 1, 0, none⟩) := hF.2.2 5 (by decide)
   refine Does.plain rfl ?_
   unfold yieldsK
   go_simp
   exact ⟨rfl, Keep.refl _ _⟩
  by_cases h5 : i = 5
  ·subst h5
   simp only [List.getElem?_toArray, List.getElem?_cons_zero, List.getElem?_cons_succ, Option.some.injEq] at hoo
   subst hoo
   have e57 : a.tmps.getD 57 undef = .pointer (some ⟨w.heap.size + 1 + 1, 4, none⟩) := hA ⟨4, .data⟩ (by simp) rfl
   have z4 := Keep.cell hK c4 id
   refine Does.plain rfl ?_
   unfold yieldsK
   go_simp
   exact ⟨rfl, Keep.refl _ _⟩
  by_cases h6 : i = 6
  ·subst h6
   simp only [List.getElem?_toArray, List.getElem?_cons_zero, List.getElem?_cons_succ, Option.some.injEq] at hoo
   subst hoo
   have e3 : a.tmps.getD 3 undef = .pointer (some ⟨w.heap.size + 1, 0, none⟩) := hF.2.2 3 (by decide)
   refine Does.plain rfl ?_
   unfold yieldsK
   go_simp
   exact ⟨rfl, Keep.refl _ _⟩
  by_cases h7 : i = 7
  ·subst h7
   simp only [List.getElem?_toArray, List.getElem?_cons_zero, List.getElem?_cons_succ, Option.some.injEq] at hoo
   subst hoo
   have e59 : a.tmps.getD 59 undef = .pointer (some ⟨w.heap.size + 1, 2, none⟩) := hA ⟨6, .data⟩ (by simp) rfl
   refine Does.plain rfl ?_
   unfold yieldsK
   go_simp
   exact ⟨rfl, Keep.refl _ _⟩
  by_cases h8 : i = 8
  ·subst h8
   simp only [List.getElem?_toArray, List.getElem?_cons_zero, List.getElem?_cons_succ, Option.some.injEq] at hoo
   subst hoo
   have e60 : a.tmps.getD 60 undef = .pointer (some ⟨w.heap.size + 1, 3, none⟩) := hA ⟨7, .data⟩ (by simp) rfl
   have z3 := Keep.cell hK m3 id
   refine Does.plain rfl ?_
   unfold yieldsK
   go_simp
   exact ⟨rfl, Keep.refl _ _⟩
  by_cases h9 : i = 9
  ·subst h9
   simp only [List.getElem?_toArray, List.getElem?_cons_zero, List.getElem?_cons_succ, Option.some.injEq] at hoo
   subst hoo
   have e58 : a.tmps.getD 58 undef = .slice (some ⟨gd, od, none⟩) nd cd := hA ⟨5, .data⟩ (by simp) rfl
   have e61 : a.tmps.getD 61 undef = .int .i64 (j : Int) := hA ⟨8, .data⟩ (by simp) rfl
   refine Does.plain rfl ?_
   unfold yieldsK
   go_simp
   exact ⟨rfl, Keep.refl _ _⟩
  by_cases h10 : i = 10
  ·subst h10
   simp only [List.getElem?_toArray, List.getElem?_cons_zero, List.getElem?_cons_succ, Option.some.injEq] at hoo
   subst hoo
   have e62 : a.tmps.getD 62 undef = .pointer (some ⟨gd, od + j * 3, none⟩) := hA ⟨9, .data⟩ (by simp) rfl
   have z0 := Keep.cell hK i0 id
   have z1 := Keep.cell hK i1 id
   have z2 := Keep.cell hK i2 id
   refine Does.plain rfl ?_
   unfold yieldsK
   go_simp
   exact ⟨rfl, Keep.refl _ _⟩
  by_cases h11 : i = 11
  ·subst h11
   simp only [List.getElem?_toArray, List.getElem?_cons_zero, List.getElem?_cons_succ, Option.some.injEq] at hoo
   subst hoo
   have e53 : a.tmps.getD 53 undef = (.agg #[.slice X nx cx, .slice (some ⟨g, off, none⟩) ny cy, .map lm, .func (.func og) #[] ob, .func (.func bg) #[] #[]] : Value) := hA ⟨0, .data⟩ (by simp) rfl
   have e56 : a.tmps.getD 56 undef = .int .i64 (k : Int) := hA ⟨3, .data⟩ (by simp) rfl
   have e63 : a.tmps.getD 63 undef = (.agg #[.int .i64 op, .int .i64 aa, .int .i64 cc] : Value) := hA ⟨10, .data⟩ (by simp) rfl
   refine Does.plain rfl ?_
   unfold yieldsK
   go_simp
   refine (HIns.out w' (keepN k5 hK)).mono ?_
   rintro e w9 ⟨rfl, hk9⟩
   exact ⟨_, rfl, rfl, hk9⟩
  by_cases h12 : i = 12
  ·subst h12
   simp only [List.getElem?_toArray, List.getElem?_cons_zero, List.getElem?_cons_succ, Option.some.injEq] at hoo
   subst hoo
   have e2 : a.tmps.getD 2 undef = .pointer (some ⟨w.heap.size, 0, none⟩) := hF.2.2 2 (by decide)
   refine Does.plain rfl ?_
   unfold yieldsK
   go_simp
   exact ⟨rfl, Keep.refl _ _⟩
  by_cases h13 : i = 13
  ·subst h13
   simp only [List.getElem?_toArray, List.getElem?_cons_zero, List.getElem?_cons_succ, Option.some.injEq] at hoo
   subst hoo
   have e65 : a.tmps.getD 65 undef = .pointer (some ⟨w.heap.size, 4, none⟩) := hA ⟨12, .data⟩ (by simp) rfl
   have z4 := Keep.cell hK s4 id
   refine Does.plain rfl ?_
   unfold yieldsK
   go_simp
   exact ⟨rfl, Keep.refl _ _⟩
  by_cases h14 : i = 14
  ·subst h14
   simp only [List.getElem?_toArray, List.getElem?_cons_zero, List.getElem?_cons_succ, Option.some.injEq] at hoo
   subst hoo
   have e3 : a.tmps.getD 3 undef = .pointer (some ⟨w.heap.size + 1, 0, none⟩) := hF.2.2 3 (by decide)
   refine Does.plain rfl ?_
   unfold yieldsK
   go_simp
   exact ⟨rfl, Keep.refl _ _⟩
  by_cases h15 : i = 15
  ·subst h15
   simp only [List.getElem?_toArray, List.getElem?_cons_zero, List.getElem?_cons_succ, Option.some.injEq] at hoo
   subst hoo
   have e67 : a.tmps.getD 67 undef = .pointer (some ⟨w.heap.size + 1, 2, none⟩) := hA ⟨14, .data⟩ (by simp) rfl
   refine Does.plain rfl ?_
   unfold yieldsK
   go_simp
   exact ⟨rfl, Keep.refl _ _⟩
  by_cases h16 : i = 16
  ·subst h16
   simp only [List.getElem?_toArray, List.getElem?_cons_zero, List.getElem?_cons_succ, Option.some.injEq] at hoo
   subst hoo
   have e68 : a.tmps.getD 68 undef = .pointer (some ⟨w.heap.size + 1, 3, none⟩) := hA ⟨15, .data⟩ (by simp) rfl
   have z3 := Keep.cell hK m3 id
   refine Does.plain rfl ?_
   unfold yieldsK
   go_simp
   exact ⟨rfl, Keep.refl _ _⟩
  by_cases h17 : i = 17
  ·subst h17
   simp only [List.getElem?_toArray, List.getElem?_cons_zero, List.getElem?_cons_succ, Option.some.injEq] at hoo
   subst hoo
   have e66 : a.tmps.getD 66 undef = .func (.func bg) #[] #[] := hA ⟨13, .data⟩ (by simp) rfl
   have e69 : a.tmps.getD 69 undef = .int .i64 (j : Int) := hA ⟨16, .data⟩ (by simp) rfl
   refine Does.plain rfl ?_
   unfold yieldsK
   go_simp
   refine (HBh.out w' (keepN k5 hK)).mono ?_
   rintro e w9 ⟨rfl, hk9⟩
   exact ⟨_, rfl, rfl, hk9⟩
  by_cases h18 : i = 18
  ·subst h18
   simp only [List.getElem?_toArray, List.getElem?_cons_zero, List.getElem?_cons_succ, Option.some.injEq] at hoo
   subst hoo
   have e64 : a.tmps.getD 64 undef = .string T := hA ⟨11, .data⟩ (by simp) rfl
   have e70 : a.tmps.getD 70 undef = .string U := hA ⟨17, .data⟩ (by simp) rfl
   refine Does.plain rfl ?_
   unfold yieldsK
   go_simp
   exact ⟨rfl, Keep.refl _ _⟩
  by_cases h19 : i = 19
  ·subst h19
   simp only [List.getElem?_toArray, List.getElem?_cons_zero, List.getElem?_cons_succ, Option.some.injEq] at hoo
   subst hoo
   have e71 : a.tmps.getD 71 undef = .string (T ++ U) := hA ⟨18, .data⟩ (by simp) rfl
   refine Does.plain rfl ?_
   unfold yieldsK
   go_simp
   exact ⟨rfl, Keep.refl _ _⟩
  omega
 case fin =>
  intro a w' hF gK hA
  have e4 : a.tmps.getD 4 undef = .string (T ++ U) := hA 19 (by decide)
  have ha := frameD_list (l := [53, 54, 55, 56, 57, 58, 59, 60, 61, 62, 63, 64, 65, 66, 67, 68, 69, 70, 71, 4]) rfl hF
  rw [ha]
  simp only [List.map_cons, List.map_nil, e4]
  generalize a.tmps.getD 53 undef = u0
  generalize a.tmps.getD 54 undef = u1
  generalize a.tmps.getD 55 undef = u2
  generalize a.tmps.getD 56 undef = u3
  generalize a.tmps.getD 57 undef = u4
  generalize a.tmps.getD 58 undef = u5
  generalize a.tmps.getD 59 undef = u6
  generalize a.tmps.getD 60 undef = u7
  generalize a.tmps.getD 61 undef = u8
  generalize a.tmps.getD 62 undef = u9
  generalize a.tmps.getD 63 undef = u10
  generalize a.tmps.getD 64 undef = u11
  generalize a.tmps.getD 65 undef = u12
  generalize a.tmps.getD 66 undef = u13
  generalize a.tmps.getD 67 undef = u14
  generalize a.tmps.getD 68 undef = u15
  generalize a.tmps.getD 69 undef = u16
  generalize a.tmps.getD 70 undef = u17
  generalize a.tmps.getD 71 undef = u18
  simp only [fillD, List.setIfInBounds_toArray, List.set_cons_zero, List.set_cons_succ]
  simp only [List.drop_succ_cons, List.drop_zero]
  go_wp2
  go_ret
  exact ⟨rfl, keepN k5 gK⟩
end Go.Proofs.YtgnooffedmeenaaGreatDoor.M.L

namespace Go.Proofs.YtgnooffedmeenaaGreatDoor.M.L
open Go.RowKit Go.Shelf W

def numQ : Nat → List Ln4 → List (Nat × Ln4)
 | _, [] => []
 | n, l :: r => (n, l) :: numQ (n + 1) r
theorem numQ_len : ∀ (n : Nat) (l : List Ln4), (numQ n l).length = l.length
 | _, [] => rfl
 | n, _ :: r => by rw [numQ, List.length_cons, List.length_cons, numQ_len]
theorem numQ_snd : ∀ (n : Nat) (l : List Ln4), (numQ n l).map Prod.snd = l
 | _, [] => rfl
 | n, x :: r => by rw [numQ, List.map_cons, numQ_snd]
abbrev NL := Nat × Ln4
def encQ (x : NL) : Array Value := #[.int .i64 (x.1 : Int), .agg (lnC x.2)]
def EnQ (seq : List Ln4) (pre : List NL) (x : NL) : Prop := ∃ post, numQ 1 seq = pre ++ x :: post
structure ShIt (W : World) (bs : Nat) (s : SH) (es : List I.SE) (fs : List I.FE) (lab : Nat → Nat → Bool) : Prop where
 bx : Blk W bs 72 s.cells
 im : I.ImAt W s.v es fs
 lb : LabAt s.m lab W

abbrev JT := List NL → BSet → World → Prop
theorem yield_any {m n : Nat} {P : Program} {l : Nat} {args : Array Value} {W : World} {R : Ending → World → Prop} (h : YieldAt Fence.wide m P l args W R) : YieldAt Fence.wide n P l args W R := by
 obtain ⟨f1, f2, f3, f4, h1, h2, h3⟩ := h
 exact ⟨f1, f2, f3, f4, h1, h2, fun c cs _ => h3 c cs (room_wide _)⟩
structure IE (J Jx : JT) (H : World → Prop) (p0 : BSet) (N0 L : Nat) (seq : List Ln4) : Prop where
 hJ : KeepsOutU 5 N0 J
 hH : ∀ O W1 W2, (∀ k, O k → p0 k ∨ N0 ≤ k) → H W1 → Keep O W1 W2 → H W2
 hY : ∀ m pre x p W1, J pre p W1 → EnQ seq pre x → YieldAt Fence.wide m Tryz.prog L (encQ x) W1 fun e W' => ∃ p', Rnd p p' W1 W' ∧ ((e = .returned (.bool true) ∧ J (pre ++ [x]) p' W') ∨ (e = .returned (.bool false) ∧ Jx (pre ++ [x]) p' W'))
 hl : seq.length ≤ 100000
 hb : ∀ pre p W, J pre p W → ∀ k, p k → k < W.heap.size
abbrev XB := Nat × TypeId × Array Value
structure TS (J : JT) (H : World → Prop) (p0 : BSet) (N0 L nb yb : Nat) (seq : List Ln4) (X : List XB) (pre : List NL) (rest : List Ln4) (p : BSet) (W : World) : Prop where
 q : numQ 1 seq = pre ++ numQ (pre.length + 1) rest
 j : J pre p W
 n : Blk W nb 3 #[.int .i64 (pre.length : Int)]
 y : Blk W yb 153 #[.func (.yield L) #[] #[]]
 pn : ¬ p nb
 py : ¬ p yb
 gn : N0 ≤ nb
 own : ∀ k, k < N0 → p k → p0 k
 h : H W
 x : ∀ e ∈ X, Blk W e.1 e.2.1 e.2.2 ∧ ¬ p e.1 ∧ e.1 ≠ nb
section
variable {J Jx : JT} {H : World → Prop} {p0 p : BSet} {N0 L nb yb : Nat} {seq rest : List Ln4} {X : List XB} {pre : List NL} {W : World}
theorem TS.lenr (h : TS J H p0 N0 L nb yb seq X pre rest p W) : pre.length + rest.length = seq.length := by
 have := congrArg List.length h.q
 rw [numQ_len, List.length_append, numQ_len] at this
 omega
theorem TS.alloc (h : TS J H p0 N0 L nb yb seq X pre rest p W) (E : IE J Jx H p0 N0 L seq) (o : Obj) (ho : ∀ c fz, o ≠ .cells c 5 fz) : TS J H p0 N0 L nb yb seq X pre rest p (W.alloc o) :=
 ⟨h.q, E.hJ _ _ _ _ h.j (IStepU.alloc o ho), h.n.alloc o, h.y.alloc o, h.pn, h.py, h.gn, h.own, E.hH NoB _ _ (fun _ hf => hf.elim) h.h ((Keep.refl _ _).alloc o), fun e he => ⟨(h.x e he).1.alloc o, (h.x e he).2⟩⟩
theorem TS.more (h : TS J H p0 N0 L nb yb seq X pre rest p W) (E : IE J Jx H p0 N0 L seq) (cs : Array Value) (t : TypeId) (ht : t ≠ 5) : TS J H p0 N0 L nb yb seq ((W.heap.size, t, cs) :: X) pre rest p (W.alloc (.cells cs t)) :=
 { h.alloc E (.cells cs t) (fun c fz e => by cases e; exact ht rfl) with
  x := fun e he => by
   rcases List.mem_cons.1 he with rfl | he
   ·exact ⟨Blk.new _ _ _, fun hh => by have := E.hb _ _ _ h.j _ hh; dsimp only at this; omega, by have := h.n.lt; dsimp only; omega⟩
   ·exact ⟨(h.x e he).1.alloc _, (h.x e he).2⟩ }
theorem TS.less {X' : List XB} (h : TS J H p0 N0 L nb yb seq X pre rest p W) (hX : ∀ e ∈ X', e ∈ X) : TS J H p0 N0 L nb yb seq X' pre rest p W := { h with x := fun e he => h.x e (hX e he) }
end
def TellR (J Jx : JT) (H : World → Prop) (p0 : BSet) (N0 L nb yb : Nat) (seq : List Ln4) (X : List XB) (rest : List Ln4) (e : Ending) (W' : World) : Prop :=
 ∃ p', (e = .returned (.bool true) ∧ ∃ pre, TS J H p0 N0 L nb yb seq X pre rest p' W') ∨ (e = .returned (.bool false) ∧ ∃ pre, (∃ post, numQ 1 seq = pre ++ post) ∧ Jx pre p' W')

set_option maxRecDepth 100000 in
set_option maxHeartbeats 2000000 in
theorem tell_any (k : Nat) {J Jx : JT} {H : World → Prop} {p0 p : BSet} {N0 L nb yb : Nat} {seq rest : List Ln4} {X : List XB} {pre : List NL} {W : World} (l : Ln4) (E : IE J Jx H p0 N0 L seq) (h : TS J H p0 N0 L nb yb seq X pre (l :: rest) p W) :
  CallsIn Fence.wide k Tryz.prog 94 #[.agg (lnC l), .pointer (some ⟨nb, 0, none⟩), .pointer (some ⟨yb, 0, none⟩)] W (TellR J Jx H p0 N0 L nb yb seq X rest) := by
 have h1 := h.alloc E (.cells (lnC l) 84) (fun c fz e => by cases e)
 have hB := Blk.new W 84 (lnC l)
 have hlen := h.lenr
 have hq := h.q
 have hlb := E.hl
 simp only [List.length_cons] at hlen
 generalize hW1 : W.alloc (.cells (lnC l) 84) = W1 at *
 have hst : IStepU 5 N0 p W1 (W1.setCell ⟨nb, 0, none⟩ (.int .i64 ((pre.length : Int) + 1))) := IStepU.setCell 0 _ h1.n (by decide) h1.gn h1.pn
 have hJ2 := E.hJ _ _ _ _ h1.j hst
 have hH2 := E.hH (fun k => k = nb) _ _ (fun k hk => by subst hk; exact .inr h1.gn) h1.h ((Keep.refl (fun k => k = nb) W1).setCell (p := ⟨nb, 0, none⟩) (fun _ => rfl) (.int .i64 ((pre.length : Int) + 1)))
 have hyn : yb ≠ nb := fun e => by
  have h2 := h1.n; have h3 := h1.y
  rw [e] at h3
  have := (show W1.heap[nb]? = _ from h2).symm.trans h3
  simp at this
 have hn2 : Blk (W1.setCell ⟨nb, 0, none⟩ (.int .i64 ((pre.length : Int) + 1))) nb 3 #[.int .i64 ((pre.length : Int) + 1)] := h1.n.put 0 _
 have hy2 := h1.y.far (p := ⟨nb, 0, none⟩) hyn (.int .i64 ((pre.length : Int) + 1))
 have hx2 : ∀ e ∈ X, Blk (W1.setCell ⟨nb, 0, none⟩ (.int .i64 ((pre.length : Int) + 1))) e.1 e.2.1 e.2.2 := fun e he => (h1.x e he).1.far (p := ⟨nb, 0, none⟩) (h1.x e he).2.2 _
 have hbn : W.heap.size ≠ nb := fun e => by have := h.n.lt; omega
 have hB2 := hB.far (p := ⟨nb, 0, none⟩) hbn (.int .i64 ((pre.length : Int) + 1))
 have a0 := h1.n.cell 0
 have f0 := h1.n.frozen 0
 have b0 := hn2.cell 0
 have y0 := hy2.cell 0
 have c0 := hB2.cell 0
 have c1 := hB2.cell 1
 have c2 := hB2.cell 2
 have c3 := hB2.cell 3
 have hen : EnQ seq pre (pre.length + 1, l) := ⟨_, hq⟩
 have HY : YieldAt Fence.wide (k - 1) Tryz.prog L #[.int .i64 ((pre.length : Int) + 1), .agg (lnC l)] _ _ := E.hY (k - 1) pre (pre.length + 1, l) p _ hJ2 hen
 have HX := Lib.hid h1.x
 have HQ : Hid (numQ 1 seq = (pre ++ [(pre.length + 1, l)]) ++ numQ ((pre ++ [(pre.length + 1, l)]).length + 1) rest) := by
  show _ = _
  rw [hq, List.append_assoc, List.length_append]
  rfl
 have HF : Hid (∀ p' W', Rnd p p' (W1.setCell ⟨nb, 0, none⟩ (.int .i64 ((pre.length : Int) + 1))) W' → J (pre ++ [(pre.length + 1, l)]) p' W' → TS J H p0 N0 L nb yb seq X (pre ++ [(pre.length + 1, l)]) rest p' W') := by
  intro p' W' hr hj
  have hz : (W1.setCell ⟨nb, 0, none⟩ (.int .i64 ((pre.length : Int) + 1))).heap.size = W1.heap.size := by simp [World.setCell]
  have hN0 : N0 ≤ W1.heap.size := by have := h1.n.lt; have := h1.gn; omega
  refine ⟨HQ.out, hj, ?_, (hr.same hy2.lt h1.py).trans hy2, hr.not hn2.lt h1.pn, hr.not hy2.lt h1.py, h1.gn, fun k hk hp => h1.own k hk (hr.own k (by rw [hz]; omega) hp), E.hH p _ _ (fun k hk => ?_) hH2 hr.keep, fun e he => ⟨(hr.same (hx2 e he).lt (h1.x e he).2.1).trans (hx2 e he), hr.not (hx2 e he).lt (h1.x e he).2.1, (h1.x e he).2.2⟩⟩
  ·have h3 := (hr.same hn2.lt h1.pn).trans hn2
   rw [List.length_append]
   exact h3
  ·by_cases hk0 : k < N0
   ·exact .inl (h1.own k hk0 hk)
   ·exact .inr (by omega)
 have hpl : pre.length ≤ 100000 := by omega
 have HP : Hid (∃ post, numQ 1 seq = (pre ++ [(pre.length + 1, l)]) ++ post) := ⟨_, HQ.out⟩
 clear h h1 hB hq hJ2 hH2 hn2 hy2 hx2 hst hB2 E hen HQ HX
 obtain ⟨w, s, i, j⟩ := l
 dsimp only [lnC] at *
 simp only [List.getElem?_toArray, List.getElem?_cons_zero, List.getElem?_cons_succ] at a0 b0 y0 c0 c1 c2 c3
 generalize pre.length = n at *
 obtain ⟨fn, tmps, assign, body, hy, hR⟩ := HY
 refine callsIn_of_wp Tryz.func94 rfl trivial ?_ rfl
 simp only [Tryz.ntmps94, List.size_toArray, List.length_cons, List.length_nil, Nat.reduceAdd, Nat.reduceSub, Array.replicate_succ, Array.replicate_zero, List.push_toArray, List.append_toArray, List.nil_append, List.cons_append]
 gi_wp2
 refine ⟨(fun h => by cases h), hR.mono ?_⟩
 rintro e W3 ⟨p', hrn, ⟨rfl, hJ3⟩ | ⟨rfl, hJx3⟩⟩
 ·gi_wp2
  refine bodyPost_ret (results_tmp rfl _ _ _) rfl ?_
  exact ⟨p', .inl ⟨rfl, _, HF.out _ _ hrn hJ3⟩⟩
 ·gi_wp2
  refine bodyPost_ret (results_tmp rfl _ _ _) rfl ?_
  exact ⟨p', .inr ⟨rfl, _, HP.out, hJx3⟩⟩

end Go.Proofs.YtgnooffedmeenaaGreatDoor.M.L

namespace Go.Proofs.YtgnooffedmeenaaGreatDoor.M.L
open Go.RowKit Go.Shelf W
attribute [local go_sem] Oper.semAt_some

theorem bodyQ_at {lab : Nat → Bool} {k i n : Nat} (h : i < n) : bodyQ lab k i (n - i) = (if lab i = true then [(3, 0, k, i)] else []) ++ (4, 0, k, i) :: bodyQ lab k (i + 1) (n - (i + 1)) := by
 obtain ⟨m, hm⟩ : ∃ m, n - i = m + 1 := ⟨n - i - 1, by omega⟩
 rw [hm, bodyQ, show n - (i + 1) = m by omega]

set_option maxRecDepth 100000 in
set_option maxHeartbeats 8000000 in
theorem tellF_any (m : Nat) {J Jx : JT} {H : World → Prop} {p0 p : BSet} {N0 L nb yb bs : Nat} {seq rest : List Ln4} {X : List XB} {pre : List NL} {W : World} (s : SH) (es : List I.SE) (fs : List I.FE) (lab : Nat → Nat → Bool) (fn : Nat)
  (E : IE J Jx H p0 N0 L seq) (hH : Hid (∀ W, H W → ShIt W bs s es fs lab)) (hfn : fn < fs.length) (hn : fs.length ≤ 100000) (hb : Hid (fs[fn].2.bd.length ≤ 100000))
  (h : TS J H p0 N0 L nb yb seq X pre (funcQ lab fn fs[fn].2 ++ rest) p W) :
  CallsIn Fence.wide m Tryz.prog 95 #[s.val, .int .i64 (fn : Int), .func (.func 94) #[] #[.pointer (some ⟨nb, 0, none⟩), .pointer (some ⟨yb, 0, none⟩)]] W (TellR J Jx H p0 N0 L nb yb seq X rest) := by
 have HE := Lib.hid E
 have h1 := h.more E s.cells 72 (by decide)
 have hB := Blk.new W 72 s.cells
 have hS := hH.out _ h1.h
 obtain ⟨g, off, hY, f0, f1, f2, f3, f4⟩ := I.fun_at hS.im.ry hfn
 have hle := hS.im.ly
 have hfl := (hS.im.hf _ (List.getElem_mem hfn)).ld
 have hll := (hS.im.hf _ (List.getElem_mem hfn)).ll
 generalize hfe : fs[fn] = fe at *
 obtain ⟨⟨S, A, na, ca, B, nb2, cb, Lc, nl, cl, D, nd, cd⟩, f⟩ := fe
 obtain ⟨⟨Xa, nx, cx, Y, ny, cy⟩, lm, og, ob, bg, bb⟩ := s
 dsimp only [SH.val, SH.cells] at *
 subst hY
 have s0 := hB.cell 0
 have s1 := hB.cell 1
 have s2 := hB.cell 2
 have s3 := hB.cell 3
 have s4 := hB.cell 4
 simp only [List.getElem?_toArray, List.getElem?_cons_zero, List.getElem?_cons_succ] at s0 s1 s2 s3 s4
 generalize hW1 : W.alloc (.cells #[.slice Xa nx cx, .slice (some ⟨g, off, none⟩) ny cy, .map lm, .func (.func og) #[] ob, .func (.func bg) #[] bb] 72) = W1 at *
 have h2 := h1.more E #[.string S, .slice A na ca, .slice B nb2 cb, .slice Lc nl cl, .slice D nd cd] 37 (by decide)
 have hz1 : W1.heap.size = W.heap.size + 1 := by rw [← hW1]; simp
 have hB7 := Blk.new W1 37 #[.string S, .slice A na ca, .slice B nb2 cb, .slice Lc nl cl, .slice D nd cd]
 rw [hz1] at h2 hB7
 have g0 := hB7.cell 0
 have g1 := hB7.cell 1
 have g2 := hB7.cell 2
 have g3 := hB7.cell 3
 have g4 := hB7.cell 4
 simp only [List.getElem?_toArray, List.getElem?_cons_zero, List.getElem?_cons_succ] at g0 g1 g2 g3 g4
 generalize hW2 : W1.alloc (.cells #[.string S, .slice A na ca, .slice B nb2 cb, .slice Lc nl cl, .slice D nd cd] 37) = W2 at *
 obtain ⟨X2, hX2⟩ : ∃ X2, X2 = (W.heap.size + 1, (37 : TypeId), (#[.string S, .slice A na ca, .slice B nb2 cb, .slice Lc nl cl, .slice D nd cd] : Array Value)) :: (W.heap.size, (72 : TypeId), (#[.slice Xa nx cx, .slice (some ⟨g, off, none⟩) ny cy, .map lm, .func (.func og) #[] ob, .func (.func bg) #[] bb] : Array Value)) :: X := ⟨_, rfl⟩
 have HX7 : Hid (∀ (pre : List NL) (r : List Ln4) (p : BSet) (W' : World), TS J H p0 N0 L nb yb seq X2 pre r p W' → Blk W' (W.heap.size + 1) 37 #[.string S, .slice A na ca, .slice B nb2 cb, .slice Lc nl cl, .slice D nd cd]) := fun pre r p W' hh => (hh.x (W.heap.size + 1, (37 : TypeId), (#[.string S, .slice A na ca, .slice B nb2 cb, .slice Lc nl cl, .slice D nd cd] : Array Value)) (by rw [hX2]; exact List.mem_cons_self)).1
 have HX3 : Hid (∀ (pre : List NL) (r : List Ln4) (p : BSet) (W' : World), TS J H p0 N0 L nb yb seq X2 pre r p W' → Blk W' W.heap.size 72 #[.slice Xa nx cx, .slice (some ⟨g, off, none⟩) ny cy, .map lm, .func (.func og) #[] ob, .func (.func bg) #[] bb]) := fun pre r p W' hh => (hh.x (W.heap.size, (72 : TypeId), (#[.slice Xa nx cx, .slice (some ⟨g, off, none⟩) ny cy, .map lm, .func (.func og) #[] ob, .func (.func bg) #[] bb] : Array Value)) (by rw [hX2]; exact List.mem_cons_of_mem _ List.mem_cons_self)).1
 have HXX : Hid (∀ e ∈ X, e ∈ X2) := fun e he => by rw [hX2]; simp [he]
 rw [← hX2] at h2
 have HQ : Hid (funcQ lab fn f = (1, 0, fn, 0) :: ((if f.lc = [] then [] else [(2, 0, fn, 0)]) ++ bodyQ (lab fn) fn 0 (nd - 0))) := by show _ = _; rw [Nat.sub_zero, ← hfl]; rfl
 rw [HQ.out, List.cons_append, List.append_assoc] at h2
 have HT1 : Hid (CallsIn Fence.wide (m - 1) Tryz.prog 94 #[.agg #[.int .i64 1, .int .i64 0, .int .i64 (fn : Int), .int .i64 0], .pointer (some ⟨nb, 0, none⟩), .pointer (some ⟨yb, 0, none⟩)] W2 _) := tell_any (m - 1) (1, 0, fn, 0) E h2
 have HLL := Lib.hid hll
 have hnd : nd ≤ 100000 := by rw [← hfl]; exact hb.out
 have hfnn : fn < ny := by omega
 have hny : ny ≤ 100000 := by omega
 clear h h1 h2 hS hB hB7 E HQ hfl hll hX2 hle hfn hn hfe hb
 refine callsIn_of_wp Tryz.func95 rfl trivial ?_ rfl
 simp only [Tryz.ntmps95, List.size_toArray, List.length_cons, List.length_nil, Nat.reduceAdd, Nat.reduceSub, Array.replicate_succ, Array.replicate_zero, List.push_toArray, List.append_toArray, List.nil_append, List.cons_append]
 gi_wp2_with fail
 refine ⟨trivial, (fun h => by cases h), HT1.out.mono ?_⟩
 clear HT1 hW1 hW2 f0 f1 f2 f3 f4 s0 s1 s2 s3 s4 g0 g1 g2 g3 g4 hz1
 rintro e W3 ⟨p3, ⟨rfl, pre3, h3⟩ | ⟨rfl, pre3, hpo, hjx⟩⟩
 rotate_left
 ·have HP := Lib.hid (And.intro hpo hjx)
  clear hpo hjx
  gi_wp2
  refine bodyPost_ret (results_tmp rfl _ _ _) rfl ?_
  exact ⟨p3, .inr ⟨rfl, pre3, HP.out⟩⟩
 have b7 := HX7.out _ _ _ _ h3
 have g3 := b7.cell 3
 have g4 := b7.cell 4
 simp only [List.getElem?_toArray, List.getElem?_cons_zero, List.getElem?_cons_succ] at g3 g4
 by_cases h0 : nl = 0
 ·have e0 : f.lc = [] := List.length_eq_zero_iff.1 (by rw [HLL.out]; exact h0)
  rw [if_pos e0, List.nil_append] at h3
  subst h0
  have H3 := Lib.hid h3
  clear h3 b7 e0 HLL
  gi_wp2
  refine ⟨(fun f h => by cases h), ?_⟩
  gi_wp2
  gi_loopw [39] (fun i wr => ∃ (j : Nat) (pre : List NL) (p : BSet), j ≤ nd ∧ i = .int .i64 (j : Int) ∧ Hid (TS J H p0 N0 L nb yb seq X2 pre (bodyQ (lab fn) fn j (nd - j) ++ rest) p wr)) (fun i _ => nd - (intOf i).toNat)
  case atStart => exact ⟨0, _, _, Nat.zero_le _, rfl, H3⟩
  case round =>
   obtain ⟨j, pre4, p4, hj, rfl, HR⟩ := hrel
   by_cases hlt : j < nd
   ·have hr := HR.out
    rw [bodyQ_at hlt, List.append_assoc] at hr
    have h4 := hr.more HE.out #[.int .i64 (fn : Int), .int .i64 (j : Int)] 82 (by decide)
    obtain ⟨v, hlk⟩ := (hH.out _ h4.h).lb.look fn j (by omega) (by omega)
    have z2 := (HX3.out _ _ _ _ (h4.less (fun e he => List.mem_cons_of_mem _ he))).cell 2
    have b9 := Blk.new wr 82 #[.int .i64 (fn : Int), .int .i64 (j : Int)]
    have q0 := b9.cell 0
    have q1 := b9.cell 1
    simp only [List.getElem?_toArray, List.getElem?_cons_zero, List.getElem?_cons_succ] at z2 q0 q1
    dsimp only at hlk
    clear HR hr b9
    generalize hW4 : wr.alloc (.cells #[.int .i64 (fn : Int), .int .i64 (j : Int)] 82) = W4 at *
    have HB9 : Hid (∀ (pre : List NL) (r : List Ln4) (p : BSet) (W' : World), TS J H p0 N0 L nb yb seq ((wr.heap.size, (82 : TypeId), (#[.int .i64 (fn : Int), .int .i64 (j : Int)] : Array Value)) :: X2) pre r p W' → Blk W' wr.heap.size 82 #[.int .i64 (fn : Int), .int .i64 (j : Int)]) := fun pre r p W' hh => (hh.x (wr.heap.size, (82 : TypeId), (#[.int .i64 (fn : Int), .int .i64 (j : Int)] : Array Value)) List.mem_cons_self).1
    cases hlb : lab fn j
    ·rw [hlb, if_neg (by decide), List.nil_append, List.cons_append] at h4
     rw [hlb] at hlk
     have HT4 : Hid (CallsIn Fence.wide (m - 1) Tryz.prog 94 #[.agg #[.int .i64 4, .int .i64 0, .int .i64 (fn : Int), .int .i64 (j : Int)], .pointer (some ⟨nb, 0, none⟩), .pointer (some ⟨yb, 0, none⟩)] W4 _) := tell_any (m - 1) (4, 0, fn, j) HE.out h4
     clear h4 hlb HB9
     gi_wp2_with fail
     refine ⟨(fun f h => by cases h), ?_⟩
     gi_wp2_with fail
     refine ⟨trivial, (fun h => by cases h), HT4.out.mono ?_⟩
     clear HT4 hW4 z2 q0 q1 hlk
     rintro e W5 ⟨p5, ⟨rfl, pre5, h5⟩ | ⟨rfl, pre5, hpo, hjx⟩⟩
     ·have H5 := Lib.hid (h5.less (X' := X2) (fun e he => List.mem_cons_of_mem _ he))
      clear h5
      gi_wp2
      go_roundw
      case rel => exact ⟨j + 1, pre5, p5, by omega, by go_num, H5⟩
      case measure => simp [intOf]; omega
     ·have HP := Lib.hid (And.intro hpo hjx)
      clear hpo hjx
      gi_wp2
      refine bodyPost_ret (results_tmp rfl _ _ _) rfl ?_
      exact ⟨_, .inr ⟨rfl, _, HP.out⟩⟩
    ·rw [hlb, if_pos rfl, List.cons_append, List.nil_append, List.cons_append] at h4
     rw [hlb] at hlk
     have HT4 : Hid (CallsIn Fence.wide (m - 1) Tryz.prog 94 #[.agg #[.int .i64 3, .int .i64 0, .int .i64 (fn : Int), .int .i64 (j : Int)], .pointer (some ⟨nb, 0, none⟩), .pointer (some ⟨yb, 0, none⟩)] W4 _) := tell_any (m - 1) (3, 0, fn, j) HE.out h4
     clear h4 hlb
     gi_wp2_with fail
     refine ⟨trivial, (fun h => by cases h), HT4.out.mono ?_⟩
     clear HT4 hW4 z2 q0 q1 hlk
     rintro e W5 ⟨p5, ⟨rfl, pre5, h5⟩ | ⟨rfl, pre5, hpo, hjx⟩⟩
     ·have b9 := HB9.out _ _ _ _ h5
      have q0 := b9.cell 0
      have q1 := b9.cell 1
      simp only [List.getElem?_toArray, List.getElem?_cons_zero, List.getElem?_cons_succ] at q0 q1
      have HT5 : Hid (CallsIn Fence.wide (m - 1) Tryz.prog 94 #[.agg #[.int .i64 4, .int .i64 0, .int .i64 (fn : Int), .int .i64 (j : Int)], .pointer (some ⟨nb, 0, none⟩), .pointer (some ⟨yb, 0, none⟩)] W5 _) := tell_any (m - 1) (4, 0, fn, j) HE.out h5
      clear h5 b9 HB9
      gi_wp2_with fail
      refine ⟨trivial, (fun h => by cases h), HT5.out.mono ?_⟩
      clear HT5 q0 q1
      rintro e W6 ⟨p6, ⟨rfl, pre6, h6⟩ | ⟨rfl, pre6, hpo, hjx⟩⟩
      ·have H6 := Lib.hid (h6.less (X' := X2) (fun e he => List.mem_cons_of_mem _ he))
       clear h6
       gi_wp2
       go_roundw
       case rel => exact ⟨j + 1, pre6, p6, by omega, by go_num, H6⟩
       case measure => simp [intOf]; omega
      ·have HP := Lib.hid (And.intro hpo hjx)
       clear hpo hjx
       gi_wp2
       refine bodyPost_ret (results_tmp rfl _ _ _) rfl ?_
       exact ⟨_, .inr ⟨rfl, _, HP.out⟩⟩
     ·have HP := Lib.hid (And.intro hpo hjx)
      clear hpo hjx
      gi_wp2
      refine bodyPost_ret (results_tmp rfl _ _ _) rfl ?_
      exact ⟨_, .inr ⟨rfl, _, HP.out⟩⟩
   ·obtain rfl : j = nd := by omega
    have HF := HR
    rw [Nat.sub_self] at HF
    have HF2 : Hid (TS J H p0 N0 L nb yb seq X pre4 rest p4 wr) := HF.out.less HXX.out
    clear HR HF HXX
    gi_wp2
    refine bodyPost_ret (results_tmp rfl _ _ _) rfl ?_
    exact ⟨_, .inl ⟨rfl, _, HF2.out⟩⟩
 ·have e0 : ¬ f.lc = [] := fun e => h0 (by rw [← HLL.out, e]; rfl)
  rw [if_neg e0, List.cons_append, List.nil_append] at h3
  have hnz : (nl : Int) ≠ 0 := by omega
  have hnb : ((nl : Int) != 0) = true := by rw [bne_iff_ne]; exact hnz
  have HT2 : Hid (CallsIn Fence.wide (m - 1) Tryz.prog 94 #[.agg #[.int .i64 2, .int .i64 0, .int .i64 (fn : Int), .int .i64 0], .pointer (some ⟨nb, 0, none⟩), .pointer (some ⟨yb, 0, none⟩)] W3 _) := tell_any (m - 1) (2, 0, fn, 0) HE.out h3
  clear h3 b7 e0 HLL hnz
  gi_wp2_with fail
  refine ⟨trivial, (fun h => by cases h), HT2.out.mono ?_⟩
  clear HT2 g3 g4
  rintro e W4 ⟨p3, ⟨rfl, pre3, h3⟩ | ⟨rfl, pre3, hpo, hjx⟩⟩
  rotate_left
  ·have HP := Lib.hid (And.intro hpo hjx)
   clear hpo hjx
   gi_wp2
   refine bodyPost_ret (results_tmp rfl _ _ _) rfl ?_
   exact ⟨_, .inr ⟨rfl, _, HP.out⟩⟩
  have b7 := HX7.out _ _ _ _ h3
  have g4 := b7.cell 4
  simp only [List.getElem?_toArray, List.getElem?_cons_zero, List.getElem?_cons_succ] at g4
  have H3 := Lib.hid h3
  clear h3 b7
  gi_wp2
  gi_loopw [39] (fun i wr => ∃ (j : Nat) (pre : List NL) (p : BSet), j ≤ nd ∧ i = .int .i64 (j : Int) ∧ Hid (TS J H p0 N0 L nb yb seq X2 pre (bodyQ (lab fn) fn j (nd - j) ++ rest) p wr)) (fun i _ => nd - (intOf i).toNat)
  case atStart => exact ⟨0, _, _, Nat.zero_le _, rfl, H3⟩
  case round =>
   obtain ⟨j, pre4, p4, hj, rfl, HR⟩ := hrel
   by_cases hlt : j < nd
   ·have hr := HR.out
    rw [bodyQ_at hlt, List.append_assoc] at hr
    have h4 := hr.more HE.out #[.int .i64 (fn : Int), .int .i64 (j : Int)] 82 (by decide)
    obtain ⟨v, hlk⟩ := (hH.out _ h4.h).lb.look fn j (by omega) (by omega)
    have z2 := (HX3.out _ _ _ _ (h4.less (fun e he => List.mem_cons_of_mem _ he))).cell 2
    have b9 := Blk.new wr 82 #[.int .i64 (fn : Int), .int .i64 (j : Int)]
    have q0 := b9.cell 0
    have q1 := b9.cell 1
    simp only [List.getElem?_toArray, List.getElem?_cons_zero, List.getElem?_cons_succ] at z2 q0 q1
    dsimp only at hlk
    clear HR hr b9
    generalize hW4 : wr.alloc (.cells #[.int .i64 (fn : Int), .int .i64 (j : Int)] 82) = W4 at *
    have HB9 : Hid (∀ (pre : List NL) (r : List Ln4) (p : BSet) (W' : World), TS J H p0 N0 L nb yb seq ((wr.heap.size, (82 : TypeId), (#[.int .i64 (fn : Int), .int .i64 (j : Int)] : Array Value)) :: X2) pre r p W' → Blk W' wr.heap.size 82 #[.int .i64 (fn : Int), .int .i64 (j : Int)]) := fun pre r p W' hh => (hh.x (wr.heap.size, (82 : TypeId), (#[.int .i64 (fn : Int), .int .i64 (j : Int)] : Array Value)) List.mem_cons_self).1
    cases hlb : lab fn j
    ·rw [hlb, if_neg (by decide), List.nil_append, List.cons_append] at h4
     rw [hlb] at hlk
     have HT4 : Hid (CallsIn Fence.wide (m - 1) Tryz.prog 94 #[.agg #[.int .i64 4, .int .i64 0, .int .i64 (fn : Int), .int .i64 (j : Int)], .pointer (some ⟨nb, 0, none⟩), .pointer (some ⟨yb, 0, none⟩)] W4 _) := tell_any (m - 1) (4, 0, fn, j) HE.out h4
     clear h4 hlb HB9
     gi_wp2_with fail
     refine ⟨(fun f h => by cases h), ?_⟩
     gi_wp2_with fail
     refine ⟨trivial, (fun h => by cases h), HT4.out.mono ?_⟩
     clear HT4 hW4 z2 q0 q1 hlk
     rintro e W5 ⟨p5, ⟨rfl, pre5, h5⟩ | ⟨rfl, pre5, hpo, hjx⟩⟩
     ·have H5 := Lib.hid (h5.less (X' := X2) (fun e he => List.mem_cons_of_mem _ he))
      clear h5
      gi_wp2
      go_roundw
      case rel => exact ⟨j + 1, pre5, p5, by omega, by go_num, H5⟩
      case measure => simp [intOf]; omega
     ·have HP := Lib.hid (And.intro hpo hjx)
      clear hpo hjx
      gi_wp2
      refine bodyPost_ret (results_tmp rfl _ _ _) rfl ?_
      exact ⟨_, .inr ⟨rfl, _, HP.out⟩⟩
    ·rw [hlb, if_pos rfl, List.cons_append, List.nil_append, List.cons_append] at h4
     rw [hlb] at hlk
     have HT4 : Hid (CallsIn Fence.wide (m - 1) Tryz.prog 94 #[.agg #[.int .i64 3, .int .i64 0, .int .i64 (fn : Int), .int .i64 (j : Int)], .pointer (some ⟨nb, 0, none⟩), .pointer (some ⟨yb, 0, none⟩)] W4 _) := tell_any (m - 1) (3, 0, fn, j) HE.out h4
     clear h4 hlb
     gi_wp2_with fail
     refine ⟨trivial, (fun h => by cases h), HT4.out.mono ?_⟩
     clear HT4 hW4 z2 q0 q1 hlk
     rintro e W5 ⟨p5, ⟨rfl, pre5, h5⟩ | ⟨rfl, pre5, hpo, hjx⟩⟩
     ·have b9 := HB9.out _ _ _ _ h5
      have q0 := b9.cell 0
      have q1 := b9.cell 1
      simp only [List.getElem?_toArray, List.getElem?_cons_zero, List.getElem?_cons_succ] at q0 q1
      have HT5 : Hid (CallsIn Fence.wide (m - 1) Tryz.prog 94 #[.agg #[.int .i64 4, .int .i64 0, .int .i64 (fn : Int), .int .i64 (j : Int)], .pointer (some ⟨nb, 0, none⟩), .pointer (some ⟨yb, 0, none⟩)] W5 _) := tell_any (m - 1) (4, 0, fn, j) HE.out h5
      clear h5 b9 HB9
      gi_wp2_with fail
      refine ⟨trivial, (fun h => by cases h), HT5.out.mono ?_⟩
      clear HT5 q0 q1
      rintro e W6 ⟨p6, ⟨rfl, pre6, h6⟩ | ⟨rfl, pre6, hpo, hjx⟩⟩
      ·have H6 := Lib.hid (h6.less (X' := X2) (fun e he => List.mem_cons_of_mem _ he))
       clear h6
       gi_wp2
       go_roundw
       case rel => exact ⟨j + 1, pre6, p6, by omega, by go_num, H6⟩
       case measure => simp [intOf]; omega
      ·have HP := Lib.hid (And.intro hpo hjx)
       clear hpo hjx
       gi_wp2
       refine bodyPost_ret (results_tmp rfl _ _ _) rfl ?_
       exact ⟨_, .inr ⟨rfl, _, HP.out⟩⟩
     ·have HP := Lib.hid (And.intro hpo hjx)
      clear hpo hjx
      gi_wp2
      refine bodyPost_ret (results_tmp rfl _ _ _) rfl ?_
      exact ⟨_, .inr ⟨rfl, _, HP.out⟩⟩
   ·obtain rfl : j = nd := by omega
    have HF := HR
    rw [Nat.sub_self] at HF
    have HF2 : Hid (TS J H p0 N0 L nb yb seq X pre4 rest p4 wr) := HF.out.less HXX.out
    clear HR HF HXX
    gi_wp2
    refine bodyPost_ret (results_tmp rfl _ _ _) rfl ?_
    exact ⟨_, .inl ⟨rfl, _, HF2.out⟩⟩

end Go.Proofs.YtgnooffedmeenaaGreatDoor.M.L

namespace Go.Proofs.YtgnooffedmeenaaGreatDoor.M.L
open Go.RowKit Go.Shelf W
attribute [local go_sem] Oper.semAt_some

def shQ (j m : Nat) : List Ln4 := (List.range' j m).map fun i => (0, i, 0, 0)
theorem shapes_shQ (n : Nat) : shapesQ n = shQ 0 n := by unfold shapesQ shQ; rw [List.range_eq_range']
theorem shQ_at {j n : Nat} (h : j < n) : shQ j (n - j) = (0, j, 0, 0) :: shQ (j + 1) (n - (j + 1)) := by
 obtain ⟨m, hm⟩ : ∃ m, n - j = m + 1 := ⟨n - j - 1, by omega⟩
 rw [hm, show n - (j + 1) = m by omega]
 unfold shQ
 rw [List.range'_succ, List.map_cons]
theorem funcsQ_at {lab : Nat → Nat → Bool} {q : List F.Fu} {k : Nat} (h : k < q.length) : funcsQ lab k (q.drop k) = funcQ lab k q[k] ++ funcsQ lab (k + 1) (q.drop (k + 1)) := by
 rw [List.drop_eq_getElem_cons h, funcsQ]

set_option maxRecDepth 100000 in
set_option maxHeartbeats 8000000 in
theorem lines_stops (m k bs : Nat) (s : SH) (es : List I.SE) (fs : List I.FE) (lab : Nat → Nat → Bool) (hes : es.length ≤ 64) (hfs : fs.length ≤ 64) (hbd : Hid (∀ e ∈ fs, e.2.bd.length ≤ 512)) (hsq : (seqQ lab (I.imOf es fs)).length ≤ 100000) (H : World → Prop) (hHI : Hid (∀ W, H W → ShIt W bs s es fs lab)) :
  StopsU 5 Tryz.prog m k 93 #[.pointer (some ⟨bs, 0, none⟩)] encQ H (EnQ (seqQ lab (I.imOf es fs))) (fun xs => xs = numQ 1 (seqQ lab (I.imOf es fs))) (fun pre => ∃ post, numQ 1 (seqQ lab (I.imOf es fs)) = pre ++ post) := by
 intro L J Jx p W hJ hJx hb hY h0 hp0 hH0 hst
 have E : IE J Jx H p W.heap.size L (seqQ lab (I.imOf es fs)) := ⟨hJ, hst, fun n pre x p W1 h1 h2 => yield_any (hY pre x p W1 h1 h2), hsq, hb⟩
 have HE := Lib.hid E
 have b2 := (Blk.new W 153 #[.func (.yield L) #[] #[]]).alloc (.cells #[.int .i64 0] 3)
 have b3 := Blk.new (W.alloc (.cells #[.func (.yield L) #[] #[]] 153)) 3 #[.int .i64 0]
 rw [World.size_alloc] at b3
 have hst2 : IStepU 5 W.heap.size p W ((W.alloc (.cells #[.func (.yield L) #[] #[]] 153)).alloc (.cells #[.int .i64 0] 3)) :=
  (IStepU.alloc _ (fun c fz e => by cases e)).trans (IStepU.alloc _ (fun c fz e => by cases e))
 have hq : numQ 1 (seqQ lab (I.imOf es fs)) = [] ++ numQ (([] : List NL).length + 1) (shQ 0 (es.length - 0) ++ funcsQ lab 0 ((fs.map fun e => e.2).drop 0)) := by
  rw [List.nil_append, Nat.sub_zero, List.drop_zero]
  show numQ 1 (shapesQ (es.map fun e => e.2).length ++ _) = _
  rw [shapes_shQ, List.length_map]
  rfl
 have h1 : TS J H p W.heap.size L (W.heap.size + 1) W.heap.size (seqQ lab (I.imOf es fs)) [] [] (shQ 0 (es.length - 0) ++ funcsQ lab 0 ((fs.map fun e => e.2).drop 0)) p ((W.alloc (.cells #[.func (.yield L) #[] #[]] 153)).alloc (.cells #[.int .i64 0] 3)) :=
  ⟨hq, hJ _ _ _ _ h0 hst2, b3, b2, fun h => by have := hp0 _ h; omega, fun h => by have := hp0 _ h; omega, by omega, fun k _ h => h, hst NoB _ _ (fun _ hf => hf.elim) hH0 (((Keep.refl _ _).alloc _).alloc _), fun e he => by cases he⟩
 have z0 := (hHI.out _ h1.h).bx.cell 0
 have hlx := (hHI.out _ hH0).im.lx
 have hly := (hHI.out _ hH0).im.ly
 have H1 := Lib.hid h1
 have HLX := Lib.hid hlx
 have HLY := Lib.hid hly
 have hnx : s.v.nx ≤ 64 := by omega
 have hny : s.v.ny ≤ 64 := by omega
 clear hJ hJx hb hY h0 hp0 hH0 hst hst2 hq b2 b3 h1 E hlx hly
 obtain ⟨⟨Xa, nx, cx, Y, ny, cy⟩, lm, og, ob, bg, bb⟩ := s
 dsimp only [SH.val, SH.cells] at *
 simp only [List.getElem?_toArray, List.getElem?_cons_zero] at z0
 refine callsIn_of_wp Tryz.func93 rfl trivial ?_ rfl
 simp only [Tryz.ntmps93, List.size_toArray, List.length_cons, List.length_nil, Nat.reduceAdd, Nat.reduceSub, Array.replicate_succ, Array.replicate_zero, List.push_toArray, List.append_toArray, List.nil_append, List.cons_append]
 gi_wp2
 generalize hW2 : (W.alloc (.cells #[.func (.yield L) #[] #[]] 153)).alloc (.cells #[.int .i64 0] 3) = W2 at *
 clear hW2 z0
 gi_loopw [12] (fun i wr => ∃ (j : Nat) (pre : List NL) (p' : BSet), j ≤ nx ∧ i = .int .i64 (j : Int) ∧ Hid (TS J H p W.heap.size L (W.heap.size + 1) W.heap.size (seqQ lab (I.imOf es fs)) [] pre (shQ j (nx - j) ++ funcsQ lab 0 ((fs.map fun e => e.2).drop 0)) p' wr)) (fun i _ => nx - (intOf i).toNat)
 case atStart =>
  have h := H1.out
  rw [HLX.out] at h
  exact ⟨0, _, _, Nat.zero_le _, rfl, h⟩
 case round =>
  obtain ⟨j, pre, p2, hj, rfl, HR⟩ := hrel
  by_cases hlt : j < nx
  ·have hr := HR.out
   rw [shQ_at hlt, List.cons_append] at hr
   have HT4 : Hid (CallsIn Fence.wide (k - 1) Tryz.prog 94 #[.agg #[.int .i64 0, .int .i64 (j : Int), .int .i64 0, .int .i64 0], .pointer (some ⟨W.heap.size + 1, 0, none⟩), .pointer (some ⟨W.heap.size, 0, none⟩)] wr _) := tell_any (k - 1) (0, j, 0, 0) HE.out hr
   clear hr HR H1
   gi_wp2_with fail
   refine ⟨trivial, (fun h => by cases h), HT4.out.mono ?_⟩
   clear HT4
   rintro e W5 ⟨p5, ⟨rfl, pre5, h5⟩ | ⟨rfl, pre5, hpo, hjx⟩⟩
   ·have H5 := Lib.hid h5
    clear h5
    gi_wp2
    go_roundw
    case rel => exact ⟨j + 1, pre5, p5, by omega, by go_num, H5⟩
    case measure => simp [intOf]; omega
   ·have HP := Lib.hid (And.intro hpo hjx)
    clear hpo hjx
    gi_wp2
    refine bodyPost_ret (results_none rfl _ _ _) rfl ?_
    exact ⟨⟨_, rfl⟩, _, .inr ⟨_, HP.out⟩⟩
  ·obtain rfl : j = nx := by omega
   have hr := HR.out
   rw [Nat.sub_self] at hr
   have z1 := (hHI.out _ hr.h).bx.cell 1
   dsimp only [SH.cells] at z1
   simp only [List.getElem?_toArray, List.getElem?_cons_zero, List.getElem?_cons_succ] at z1
   have HR2 : Hid (TS J H p W.heap.size L (W.heap.size + 1) W.heap.size (seqQ lab (I.imOf es fs)) [] pre (funcsQ lab 0 ((fs.map fun e => e.2).drop 0)) p2 wr) := hr
   clear hr HR H1
   gi_wp2
   clear z1
   gi_loopw [25] (fun i wr => ∃ (j2 : Nat) (pre : List NL) (p' : BSet), j2 ≤ ny ∧ i = .int .i64 (j2 : Int) ∧ Hid (TS J H p W.heap.size L (W.heap.size + 1) W.heap.size (seqQ lab (I.imOf es fs)) [] pre (funcsQ lab j2 ((fs.map fun e => e.2).drop j2)) p' wr)) (fun i _ => ny - (intOf i).toNat)
   case atStart => exact ⟨0, _, _, Nat.zero_le _, rfl, HR2⟩
   case round =>
    obtain ⟨j2, pre2, p3, hj2, rfl, HR3⟩ := hrel
    by_cases hlt2 : j2 < ny
    ·have hr := HR3.out
     have hjf : j2 < fs.length := by rw [HLY.out]; exact hlt2
     rw [funcsQ_at (by rw [List.length_map]; exact hjf), List.getElem_map] at hr
     have z := (hHI.out _ hr.h).bx
     have z0 := z.cell 0
     have z1 := z.cell 1
     have z2 := z.cell 2
     have z3 := z.cell 3
     have z4 := z.cell 4
     dsimp only [SH.cells] at z0 z1 z2 z3 z4
     simp only [List.getElem?_toArray, List.getElem?_cons_zero, List.getElem?_cons_succ] at z0 z1 z2 z3 z4
     have HT5 : Hid (CallsIn Fence.wide (k - 1) Tryz.prog 95 #[.agg #[.slice Xa j cx, .slice Y ny cy, .map lm, .func (.func og) #[] ob, .func (.func bg) #[] bb], .int .i64 (j2 : Int), .func (.func 94) #[] #[.pointer (some ⟨W.heap.size + 1, 0, none⟩), .pointer (some ⟨W.heap.size, 0, none⟩)]] wr _) :=
      tellF_any (k - 1) ⟨⟨Xa, j, cx, Y, ny, cy⟩, lm, og, ob, bg, bb⟩ es fs lab j2 HE.out hHI hjf (by omega) (Nat.le_trans (hbd.out _ (List.getElem_mem hjf)) (by omega)) hr
     clear hr HR3 HR2 z
     gi_wp2_with fail
     refine ⟨trivial, (fun h => by cases h), HT5.out.mono ?_⟩
     clear HT5 z0 z1 z2 z3 z4
     rintro e W5 ⟨p5, ⟨rfl, pre5, h5⟩ | ⟨rfl, pre5, hpo, hjx⟩⟩
     ·have H5 := Lib.hid h5
      clear h5
      gi_wp2
      go_roundw
      case rel => exact ⟨j2 + 1, pre5, p5, by omega, by go_num, H5⟩
      case measure => simp [intOf]; omega
     ·have HP := Lib.hid (And.intro hpo hjx)
      clear hpo hjx
      gi_wp2
      refine bodyPost_ret (results_none rfl _ _ _) rfl ?_
      exact ⟨⟨_, rfl⟩, _, .inr ⟨_, HP.out⟩⟩
    ·obtain rfl : j2 = ny := by omega
     have hr := HR3.out
     rw [List.drop_of_length_le (by rw [List.length_map, HLY.out]; exact Nat.le_refl _)] at hr
     have hfin : Hid (pre2 = numQ 1 (seqQ lab (I.imOf es fs)) ∧ J pre2 p3 wr) := ⟨by have := hr.q; rw [show funcsQ lab j2 [] = [] from rfl] at this; rw [this]; simp [numQ], hr.j⟩
     clear hr HR3 HR2
     gi_wp2
     go_end0
     exact ⟨⟨_, rfl⟩, _, .inl ⟨_, hfin.out⟩⟩

end Go.Proofs.YtgnooffedmeenaaGreatDoor.M.L
