package cluster

import (
	"scuttlebutt/api"
	"scuttlebutt/node"
)

// deed is what an op does.
type deed struct {
	do func(*Cluster, Op) api.Errno
	// It is a thing of a node that is up.
	up bool
}

// deeds answers what the ops do, each at its kind.
func deeds() []deed {
	return []deed{
		{do: (*Cluster).pass},
		{do: (*Cluster).deliver},
		{do: (*Cluster).drop},
		{do: (*Cluster).twice},
		{do: (*Cluster).delay},
		{do: (*Cluster).crash, up: true},
		{do: (*Cluster).restart},
		{do: (*Cluster).rebind},
		{do: (*Cluster).join, up: true},
		{do: (*Cluster).leave, up: true},
		{do: (*Cluster).inject},
		{do: (*Cluster).tick, up: true},
		{do: (*Cluster).rest},
	}
}

// Do does a step of a script.
func (c *Cluster) Do(o Op) api.Errno {
	list, e := deeds(), api.ErrArg
	if o.Kind < 0 || o.Kind >= len(list) {
		goto no
	}
	e = api.ErrNone
	if list[o.Kind].up && !c.Up(o.Node) {
		goto no
	}
	e = list[o.Kind].do(c, o)
no:
	return e
}

// pass has time go on, and all that are up tick.
func (c *Cluster) pass(Op) api.Errno {
	c.now = min(c.now+1, latest)
	for id := 1; id <= len(c.ones); id++ {
		if c.Up(id) {
			c.have(id, (*node.Node).Tick)
		}
	}
	return api.OK
}

// deliver has the one that is picked arrive; where nobody is up it is lost.
func (c *Cluster) deliver(o Op) api.Errno {
	x, e := c.net.Deliver(c.now, o.Pick)
	// With an error it arrives nowhere.
	if c.Up(x.Host) {
		c.let(x.Host, c.Node(x.Host).Take(c.now, x.From, x.Bytes))
	}
	return e
}

// drop has the one that is picked go.
func (c *Cluster) drop(o Op) api.Errno { return c.net.Drop(o.Pick) }

// twice has the one that is picked be under way once more.
func (c *Cluster) twice(o Op) api.Errno { return c.net.Twice(o.Pick) }

// delay has the one that is picked be ready later.
func (c *Cluster) delay(o Op) api.Errno { return c.net.Delay(o.Pick, o.By) }

// crash has a node be up no more.
func (c *Cluster) crash(o Op) api.Errno {
	c.member(o.Node).up = false
	return api.OK
}

// restart has a member that is not up begin anew, of an Inc that it never told of.
func (c *Cluster) restart(o Op) api.Errno {
	var inc uint32
	m, e := c.member(o.Node), api.ErrNone
	if m == nil {
		goto no
	}
	if m.up {
		e = api.ErrOld
		goto no
	}
	inc = m.told[len(m.told)-1].Inc
	if inc == api.MaxInc {
		goto no
	}
	c.start(o.Node, inc+1)
	return api.OK
no:
	return e
}

// rebind has a member's box begin anew, at an IP that no box had in a long time.
func (c *Cluster) rebind(o Op) api.Errno {
	box := noBox
	if m := c.member(o.Node); m != nil {
		box = m.box
	}
	e := c.net.Rebind(box, boxIP(o.Node, c.rebound+1))
	if e == api.OK {
		c.rebound = (c.rebound + 1) % rebinds
	}
	return e
}

// join has a node tell the seeds that it is there.
func (c *Cluster) join(o Op) api.Errno {
	c.have(o.Node, (*node.Node).Join)
	return api.OK
}

// leave has a node tell all that it is there no more.
func (c *Cluster) leave(o Op) api.Errno {
	c.have(o.Node, (*node.Node).Leave)
	return api.OK
}

// inject has something be under way, whoever sent it.
func (c *Cluster) inject(o Op) api.Errno { return c.net.Inject(c.now, o.From, o.To, o.Bytes) }

// tick has a node do what is to be done by now.
func (c *Cluster) tick(o Op) api.Errno {
	c.have(o.Node, (*node.Node).Tick)
	return api.OK
}

// rest does nothing.
func (c *Cluster) rest(Op) api.Errno { return api.OK }
