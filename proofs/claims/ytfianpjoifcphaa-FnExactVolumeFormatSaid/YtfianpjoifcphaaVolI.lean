/-
  Volumes in memory: four slices and two numbers that read as a volume ('VolI'); .. of the call's own ('OwnV'). Plain.
-/
import Derived.Test.YtfianpjoifcphaaVol0
import Derived.Test.YtfianpjoifcphaaObj
import Derived.Test.YtfianpjoifcphaaMapI
namespace Go.Proofs.Ytfianpjoifcphaa
open Go.RowKit
set_option linter.unusedVariables false
set_option maxRecDepth 100000

/-- a volume's parts, and where they lie -/
structure Vq where
  dev : List Zq
  dA : Option Addr
  dn : Nat
  dc : Nat
  sto : List Oq
  sA : Option Addr
  sn : Nat
  sc : Nat
  map : List Wh
  mA : Option Addr
  mn : Nat
  mc : Nat
  heat : List Int
  hA : Option Addr
  hn : Nat
  hc : Nat
  seq : Int
  zone : Int
def Vq.vol (q : Vq) : Vol := ⟨zns q.dev, obs q.sto, q.map, q.heat, q.seq, q.zone⟩
def Vq.val (q : Vq) : Value := .agg #[.slice q.dA q.dn q.dc, .slice q.sA q.sn q.sc, .slice q.mA q.mn q.mc, .slice q.hA q.hn q.hc, .int .i64 q.seq, .int .i64 q.zone]
/-- the volume that a failing function returns -/
def vq0 : Vq := ⟨[], none, 0, 0, [], none, 0, 0, [], none, 0, 0, [], none, 0, 0, 0, 0⟩
def vol0 : Vol := ⟨[], [], [], [], 0, 0⟩
theorem vq0_vol : vq0.vol = vol0 := rfl
theorem vq0_val : vq0.val = .agg #[.slice none 0 0, .slice none 0 0, .slice none 0 0, .slice none 0 0, .int .i64 0, .int .i64 0] := rfl

/-- the parts read -/
structure VolI (w : World) (B : Nat) (q : Vq) : Prop where
  dev : Zns w B q.dA q.dn q.dev
  sto : Objs w B q.sA q.sn q.sto
  map : MpI w B q.mA q.mn q.map
  heat : Ints w B q.hA q.hn q.heat
  dc : q.dn ≤ q.dc ∧ q.dc ≤ maxLen
  sc : q.sn ≤ q.sc ∧ q.sc ≤ maxLen
  mc : q.mn ≤ q.mc ∧ q.mc ≤ maxLen
  hc : q.hn ≤ q.hc ∧ q.hc ≤ maxLen
section
variable {w w' : World} {B B' : Nat} {q : Vq}
theorem VolI.below {B2 : Nat} (h : VolI w B q) (hb : Below B2 w w') (hB : B ≤ B2) : VolI w' B q := ⟨h.dev.below hb hB, h.sto.below hb hB, h.map.below hb hB, h.heat.below hb hB, h.dc, h.sc, h.mc, h.hc⟩
theorem VolI.more (h : VolI w B q) (hB : B ≤ B') : VolI w B' q := ⟨h.dev.more hB, h.sto.more hB, h.map.more hB, h.heat.more hB, h.dc, h.sc, h.mc, h.hc⟩
theorem VolI.drewN (h : VolI w B q) (k : Nat) : VolI (w.drewN k) B q := ⟨h.dev.drewN k, h.sto.drewN k, h.map.drewN k, h.heat, h.dc, h.sc, h.mc, h.hc⟩
theorem VolI.alloc (h : VolI w B q) (hB : B ≤ w.heap.size) (o : Obj) : VolI (w.alloc o) B q := ⟨h.dev.alloc hB o, h.sto.alloc hB o, h.map.alloc hB o, h.heat.alloc hB o, h.dc, h.sc, h.mc, h.hc⟩
theorem VolI.grown (h : VolI w B q) {row : Option Nat} (hg : w.grownBy w' row) (hB : B ≤ w.heap.size) (hr : ∀ g, row = some g → B ≤ g) : VolI w' B q :=
  ⟨h.dev.grown hg hB hr, h.sto.grown hg hB hr, h.map.grown hg hB hr, h.heat.grown hg hB hr, h.dc, h.sc, h.mc, h.hc⟩
end

/-- the parts are rows of the call's own -/
structure OwnV (w : World) (base : Nat) (q : Vq) : Prop where
  dev : OwnZ w base q.dA q.dn q.dc q.dev
  sto : OwnO w base q.sA q.sn q.sc q.sto
  map : MpR w base q.mA q.mn q.mc q.map
  heat : Own w base q.hA q.hn q.hc q.heat
section
variable {w w' : World} {base : Nat} {q : Vq}
theorem OwnV.voli (h : OwnV w base q) : VolI w w.heap.size q := ⟨h.dev.zns, h.sto.objs, h.map.mpi, h.heat.ints, h.dev.cap, h.sto.cap, h.map.cap, h.heat.cap⟩
theorem OwnV.below (h : OwnV w base q) (hg : Below w.heap.size w w') : OwnV w' base q := ⟨h.dev.below hg, h.sto.below hg, h.map.below hg, h.heat.below hg⟩
theorem OwnV.alloc (h : OwnV w base q) (o : Obj) : OwnV (w.alloc o) base q := ⟨h.dev.alloc o, h.sto.alloc o, h.map.alloc o, h.heat.alloc o⟩
theorem OwnV.drewN (h : OwnV w base q) (k : Nat) : OwnV (w.drewN k) base q := ⟨h.dev.drewN k, h.sto.drewN k, h.map.drewN k, h.heat.drewN k⟩
theorem OwnV.mono {b' : Nat} (h : OwnV w base q) (hb : b' ≤ base) : OwnV w b' q := ⟨h.dev.mono hb, h.sto.mono hb, h.map.mono hb, h.heat.mono hb⟩
theorem OwnV.nil_ (w : World) (base : Nat) : OwnV w base vq0 := ⟨OwnZ.nil_ w base, OwnO.nil_ w base, MpR.nil_ w base, Own.nil_ w base⟩
end

/-- what a function with a volume and a code returns -/
def VPost (w : World) (V : Vol) (code : Int) (e : Ending) (w' : World) : Prop :=
  ∃ q, e = .returned (.tuple #[q.val, .int .i64 code]) ∧ OwnV w' w.heap.size q ∧ q.vol = V ∧ Below w.heap.size w w'
/-- .. a volume and whether it was done -/
def VPostB (w : World) (V : Vol) (ok : Bool) (e : Ending) (w' : World) : Prop :=
  ∃ q, e = .returned (.tuple #[q.val, .bool ok]) ∧ OwnV w' w.heap.size q ∧ q.vol = V ∧ Below w.heap.size w w'
/-- .. a volume -/
def VPost1 (w : World) (V : Vol) (e : Ending) (w' : World) : Prop :=
  ∃ q, e = .returned q.val ∧ OwnV w' w.heap.size q ∧ q.vol = V ∧ Below w.heap.size w w'
theorem VPost.none {w w0 : World} (h : Below w0.heap.size w0 w) (hs : w0.heap.size ≤ w.heap.size) (code : Int) : VPost w0 vol0 code (.returned (.tuple #[vq0.val, .int .i64 code])) w :=
  ⟨vq0, rfl, OwnV.nil_ _ _, vq0_vol, h⟩
end Go.Proofs.Ytfianpjoifcphaa
